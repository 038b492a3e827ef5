
/-
  Rows that a call itself makes and appends to, from whatever source: one law for the walk. No program is named here.
-/
import Derived.Test.YtiappeagdnkedaaKit
import Derived.Laws.AppendOwnNone
namespace Go.Proofs.Ytiappeagdnkedaa
open Go.RowKit

/-- an owned slice has a length and a capacity -/
theorem owned_shape {w : World} {base : Nat} {e : TypeId} {size n : Nat} {v : Value} {xs : List Value} (h : w.ownsRow base e size v n xs) : ∃ ao cap, v = .slice ao n cap ∧ (ao = none → n = 0 ∧ cap = 0) := by
  obtain ⟨_, ⟨rfl, rfl⟩ | ⟨g, cap, cur, rfl, _⟩⟩ := h
  · exact ⟨none, 0, rfl, fun _ => ⟨rfl, rfl⟩⟩
  · exact ⟨_, cap, rfl, fun h => by cases h⟩
/-- what is owned from one number on is owned from a lesser one on -/
theorem owned_mono {w : World} {base base' : Nat} {e : TypeId} {size n : Nat} {v : Value} {xs : List Value} (h : w.ownsRow base e size v n xs) (hb : base' ≤ base) : w.ownsRow base' e size v n xs := by
  obtain ⟨h1, h2⟩ := h
  refine ⟨h1, h2.imp_right ?_⟩
  rintro ⟨g, cap, cur, rfl, hg, h3⟩
  exact ⟨g, cap, cur, rfl, Nat.le_trans hb hg, h3⟩
/-- an owned row stays so where what lay stays -/
theorem owned_below {w w' : World} {base : Nat} {e : TypeId} {size n : Nat} {v : Value} {xs : List Value} (h : w.ownsRow base e size v n xs) (hb : Below w.heap.size w w') : w'.ownsRow base e size v n xs := by
  obtain ⟨h1, h2⟩ := h
  refine ⟨h1, h2.imp_right ?_⟩
  rintro ⟨g, cap, cur, rfl, hg, hh, h3⟩
  exact ⟨g, cap, cur, rfl, hg, (hb.block g (Array.getElem?_eq_some_iff.1 hh).1).trans hh, h3⟩
theorem owned_block {w : World} {base : Nat} {e : TypeId} {size n : Nat} {v : Value} {xs : List Value} (h : w.ownsRow base e size v n xs) : ∀ g, v.ownBlock = some g → base ≤ g ∧ g < w.heap.size := h.lt
/-- a row that another row's growth leaves -/
theorem owned_kept {w w' : World} {base : Nat} {e : TypeId} {size n : Nat} {v : Value} {xs : List Value} {row : Option Nat} (h : w.ownsRow base e size v n xs) (hg : w.grownBy w' row) (hne : ∀ g, v.ownBlock = some g → row ≠ some g) : w'.ownsRow base e size v n xs := by
  obtain ⟨h1, h2⟩ := h
  refine ⟨h1, h2.imp_right ?_⟩
  rintro ⟨g, cap, cur, rfl, hgb, hh, h3⟩
  exact ⟨g, cap, cur, rfl, hgb, (hg.block g (Array.getElem?_eq_some_iff.1 hh).1 (fun e => hne g rfl e.symm)).trans hh, h3⟩

/-- 'append(s, x...)': s a row of the call's own, x whatever; it may grow -/
theorem app_row {P : Program} {w : World} {ops : Array Oper} {rest : List Oper} {o : Oper} {a : Act} {Q : Exit → Act → World → Prop} (hgd : o.guard = none)
    (s x : Operand) (t : TypeId) (ho : o.op = .call { callee := .builtin .append, args := #[s, x], argTypes := #[t, t] }) (base : Nat) (e : TypeId) (i : TypeInfo)
    (z : Value) (size bytes : Nat) (ht : P.underlying t = some (.slice e)) (hi : P.info? e = some i) (hz : i.zero = some z) (hsize : i.size = size) (hby : i.bytes = bytes)
    (hzs : z.cells.size = size) (hsz : 0 < size) (v : Value) (n : Nat) (xs : List Value) (hs : a.eval s = v) (hown : w.ownsRow base e size v n xs) (ao : Option Addr) (m c : Nat) (news : List Value)
    (hx : a.eval x = .slice ao m c) (hnone : ao = none → m = 0 ∧ c = 0) (hl : news.length = m * size) (hnews : ∀ ad, ao = some ad → ∀ (j : Nat) (u : Value), news[j]? = some u → w.cell? (ad.add j) = some u)
    (h1 : ∀ u, u ∈ news → u.oneCell' = true) (h63 : n + m ≤ maxLen) (hbytes : (n + m) * bytes ≤ 140737488355328) (hbase : base ≤ w.heap.size)
    (h : ∀ (v' : Value) (w' : World), w'.ownsRow base e size v' (n + m) (xs ++ news) → Below base w w' → w.grownBy w' v.ownBlock → wpList P ops Q rest (a.put o.dst v') w') : wpList P ops Q (o :: rest) a w := by
  cases ao with
  | none =>
    obtain ⟨rfl, rfl⟩ := hnone rfl
    have hn : news = [] := List.eq_nil_of_length_eq_zero (by simpa using hl)
    subst hn
    refine wpList_append_own_none hgd s x t ho base e i size ht hi _ n xs hs hown hx ?_
    exact h v w (by simpa using hown) (Below.refl _ _) (World.grownBy.refl _ _)
  | some ad =>
    refine wpList_append_own w hgd s x t ho base e i z size bytes ht hi hz hsize hby hzs hsz v n xs hs hown ad m c news hx hl (hnews ad rfl) h1 h63 hbytes hbase ?_
    intro v' w' hown' hgrow _
    exact h v' w' hown' ((Below.refl _ _).grown hgrow hbase (fun k hk => (hown.lt k hk).1)) hgrow
/-- the same, of integers -/
theorem app_ints {P : Program} {w : World} {ops : Array Oper} {rest : List Oper} {o : Oper} {a : Act} {Q : Exit → Act → World → Prop} (hgd : o.guard = none)
    (s x : Operand) (t : TypeId) (ho : o.op = .call { callee := .builtin .append, args := #[s, x], argTypes := #[t, t] }) (base : Nat) (e : TypeId) (k : IntKind) (bytes : Nat) (ht : P.underlying t = some (.slice e))
    (hi : (P.info? e).map (fun i => (i.zero, i.size, i.bytes)) = some (some (.int k 0), 1, bytes)) (v : Value) (n : Nat) (xs : List Int) (hs : a.eval s = v) (hown : w.ownsRow base e 1 v n (xs.map (Value.int k))) (x' : Value) (ys : List Int)
    (hx : a.eval x = x') (hsrc : Sl k w x' ys) (hlen : (xs.length + ys.length) * bytes ≤ 140737488355328) (hm : xs.length + ys.length ≤ maxLen) (hbase : base ≤ w.heap.size)
    (h : ∀ (v' : Value) (w' : World), w'.ownsRow base e 1 v' (xs.length + ys.length) ((xs ++ ys).map (Value.int k)) → Below base w w' → w.grownBy w' v.ownBlock → wpList P ops Q rest (a.put o.dst v') w') : wpList P ops Q (o :: rest) a w := by
  obtain ⟨i0, hi0, hz0, hz1, hz2⟩ := info_parts hi
  have hn : n = xs.length := by have := hown.1; simpa using this.symm
  subst hn
  obtain ⟨ao, c, e', _⟩ := id hsrc
  subst e'
  refine app_row hgd s x t ho base e i0 (.int k 0) 1 bytes ht hi0 hz0 hz1 hz2 rfl (by decide) v xs.length (xs.map (Value.int k)) hs hown ao ys.length c (ys.map (Value.int k)) hx ?_ (by simp) ?_ (ints_oneCell _ _) hm hlen hbase ?_
  · intro h0; subst h0; exact hsrc.bare
  · intro ad h0; subst h0
    by_cases h0 : 0 < ys.length
    · obtain ⟨ad', e', hc⟩ := hsrc.cells h0
      cases e'
      exact hc
    · intro j u hj
      obtain rfl : ys = [] := List.eq_nil_of_length_eq_zero (by omega)
      simp at hj
  · intro v' w' hown' hb hg
    exact h v' w' (by simpa using hown') hb hg

/-- an owned row of integers reads as it is -/
theorem Sl.of_own {k : IntKind} {w : World} {base n : Nat} {e : TypeId} {v : Value} {zs : List Int} (h : w.ownsRow base e 1 v n (zs.map (Value.int k))) (hf : Fit k zs) (hm : zs.length ≤ maxLen) : Sl k w v zs := by
  have hn : n = zs.length := by have := h.1; simpa using this.symm
  subst hn
  exact Sl.owned h hf hm
theorem Fit.append {k : IntKind} {xs ys : List Int} (hx : Fit k xs) (hy : Fit k ys) : Fit k (xs ++ ys) := fun n hn => by
  rcases List.mem_append.1 hn with h | h
  · exact hx n h
  · exact hy n h

/-- a list of numbers that was just laid, each of which fits -/
theorem Sl.lit' {k : IntKind} {w : World} {g n : Nat} {e : TypeId} {cs : Array Value} (zs : List Int) (hg : g = w.heap.size) (hc : cs = (zs.map (Value.int k)).toArray) (hn : n = zs.length) (hf : Fit k zs) (hm : zs.length ≤ maxLen) :
    Sl k (w.alloc (.cells cs e)) (.slice (some ⟨g, 0, none⟩) n n) zs := by
  subst hg; subst hc; subst hn
  exact Sl.block (e := e) (heap_alloc_new w _) hf hm
/-- a list of numbers that was just laid is the call's own -/
theorem owned_lit {k : IntKind} {w : World} {base g n : Nat} {e : TypeId} {cs : Array Value} (zs : List Int) (hb : base ≤ w.heap.size) (hg : g = w.heap.size) (hc : cs = (zs.map (Value.int k)).toArray) (hn : n = zs.length) (hm : zs.length ≤ maxLen) :
    (w.alloc (.cells cs e)).ownsRow base e 1 (.slice (some ⟨g, 0, none⟩) n n) n (zs.map (Value.int k)) := by
  subst hg; subst hc; subst hn
  exact ⟨by simp, .inr ⟨w.heap.size, zs.length, _, rfl, hb, heap_alloc_new w _, Nat.le_refl _, hm, by simp, List.take_of_length_le (by simp)⟩⟩
theorem fit_bytes2 {a b : Int} (h1 : 0 ≤ a) (h2 : a ≤ 255) (h3 : 0 ≤ b) (h4 : b ≤ 255) : Fit .u8 [a, b] := by
  intro n hn
  simp only [List.mem_cons, List.not_mem_nil, or_false] at hn
  rcases hn with rfl | rfl
  · exact WalkArith.wf_u8 (by omega)
  · exact WalkArith.wf_u8 (by omega)

/-- three results, the first of which lies in a block of its own -/
theorem results_row_tmp2 {P : Program} {fn : Func} {p u v : Tmp} {ty : TypeId} (h : fn.results = #[.cell p ty, .tmp u, .tmp v]) (tmps : Array Value) (w : World) (g : Nat) (t : TypeId) (cs : Array Value) (fr : Nat × Nat) (d : TypeDesc)
    (hp : tmps.getD p undef = .pointer (some ⟨g, 0, none⟩)) (hg : w.heap[g]? = some (.cells cs t fr))
    (hu : P.underlying ty = some d) (hd : (match d with | .struct _ | .array _ _ => true | _ => false) = true) (hi : (P.info? ty).map (·.size) = some cs.size) :
    (results fn tmps).run P w = .ok (.tuple #[.agg cs, tmps.getD u undef, tmps.getD v undef]) w := by
  have hp' : tmps[p]?.getD undef = .pointer (some ⟨g, 0, none⟩) := by simpa using hp
  simp [results, h, hp', asAddr, run_loadVar_row w g t ty cs fr d hg hu hd hi, Result.andThen]

/-- 'make([]T, n, n)' as an equation, for regions that draw their order: the world behind it under a name -/
theorem make_named {P : Program} (t e : TypeId) (z : Value) (size bytes : Nat) (ht : P.underlying t = some (.slice e)) (hi : (P.info? e).map (fun i => (i.zero, i.size, i.bytes)) = some (some z, size, bytes)) (n : Int) (N : Nat) (hn : n = (N : Int))
    (hb : bytes * N ≤ 281474976710656) (hm : N ≤ maxLen) :
    ∃ mk : World → World, (∀ (kl kc : IntKind) (w : World), (Instr.makeSlice t (.int kl n) (.int kc n)).run P w = .ok (.slice (some ⟨w.heap.size, 0, none⟩) N N) (mk w)) ∧
      (∀ w : World, (mk w).ownsRow w.heap.size e size (.slice (some ⟨w.heap.size, 0, none⟩) N N) N (madeCells z.cells (N * size)).toList) ∧ ∀ w : World, w.grownBy (mk w) none := by
  obtain ⟨i0, hi0, hz0, hz1, hz2⟩ := info_parts hi
  subst hn
  have h := fun (w : World) => run_make_full (P := P) w w.heap.size t e i0 z size ht hi0 hz0 hz1 .i64 .i64 N (by rw [hz2]; exact hb) hm (Nat.le_refl _)
  refine ⟨fun w => Classical.choose (h w), fun kl kc w => ?_, fun w => (Classical.choose_spec (h w)).2.1, fun w => (Classical.choose_spec (h w)).2.2⟩
  have h1 := (Classical.choose_spec (h w)).1
  rw [← h1]
  rfl

/-- the cells of a block of which nothing is frozen -/
theorem blk_cell {W : World} {B j : Nat} {t : TypeId} {cs : Array Value} {v : Value} (h : W.heap[B]? = some (.cells cs t (0, 0))) (hj : cs[j]? = some v) : W.cell? ⟨B, j, none⟩ = some v := by simp [World.cell?, h, hj]
theorem blk_free {W : World} {B j : Nat} {t : TypeId} {cs : Array Value} (h : W.heap[B]? = some (.cells cs t (0, 0))) : W.frozen? ⟨B, j, none⟩ = false := by simp [World.frozen?, h]

theorem setRow_grown (w : World) (g : Nat) (cs : Array Value) : w.grownBy (w.setRow g cs) (some g) := by
  refine ⟨rfl, rfl, rfl, by simp [World.setRow], fun k _ hne => ?_⟩
  have : k ≠ g := fun e => hne (by rw [e])
  simp [World.setRow, Array.getElem?_modify, Ne.symm this]
/-- 'copy(d, s)' over the whole of a row that the call itself made -/
theorem copy_ints {P : Program} {w : World} {ops : Array Oper} {rest : List Oper} {o : Oper} {a : Act} {Q : Exit → Act → World → Prop} (hgd : o.guard = none)
    (d s : Operand) (t : TypeId) (ho : o.op = .call { callee := .builtin .copy, args := #[d, s], argTypes := #[t, t] }) (e : TypeId) (k : IntKind) (hu : P.underlying t = some (.slice e)) (hsz : (P.info? e).map (·.size) = some 1)
    (base g N : Nat) (xs : List Int) (hd : a.eval d = .slice (some ⟨g, 0, none⟩) N N) (hown : w.ownsRow base e 1 (.slice (some ⟨g, 0, none⟩) N N) N (xs.map (Value.int k))) (sv : Value) (ys : List Int) (hs : a.eval s = sv) (hsrc : Sl k w sv ys) (hl : ys.length = N)
    (h : ∀ w', w'.ownsRow base e 1 (.slice (some ⟨g, 0, none⟩) N N) N (ys.map (Value.int k)) → w.grownBy w' (some g) → Below base w w' → wpList P ops Q rest (a.put o.dst (goInt N)) w') : wpList P ops Q (o :: rest) a w := by
  subst hl
  obtain ⟨sp, c, e', _⟩ := id hsrc
  subst e'
  by_cases h0 : ys.length = 0
  · refine wpList_copy_nothing hgd d s t t ho e hu hsz _ sp _ _ ys.length c hd hs (by simp [h0]) ?_
    have hx : xs = [] := List.eq_nil_of_length_eq_zero (by have := hown.1; simp at this; omega)
    have hy : ys = [] := List.eq_nil_of_length_eq_zero h0
    have := h w (by rw [hx] at hown; rw [hy] at hown ⊢; exact hown) (World.grownBy.refl _ _) (Below.refl _ _)
    rw [h0] at this
    exact this
  · obtain ⟨ad, rfl, hsc⟩ := hsrc.cells (by omega)
    have hg := own_block hown
    have hlx : xs.length = ys.length := by have := hown.1; simpa using this
    have hb := (hown.lt g rfl).1
    refine wpList_copy_own hgd d s t t ho e hu hsz g 0 _ _ ad _ c hd hs _ e hg (ys.map (Value.int k)) (by simp) hsc (by simp [hlx]) (ints_oneCell _ _) ?_
    have hcs : (List.take 0 (xs.map (Value.int k)).toArray.toList ++ (ys.map (Value.int k) ++ List.drop (0 + (ys.map (Value.int k)).length) (xs.map (Value.int k)).toArray.toList)).toArray = (ys.map (Value.int k)).toArray := by simp [hlx]
    have hr := setRow_heap w g _ (ys.map (Value.int k)).toArray e (0, 0) hg
    have := h (w.setRow g (ys.map (Value.int k)).toArray) ⟨by simp, .inr ⟨g, ys.length, _, rfl, hb, hr, Nat.le_refl _, hsrc.len, by simp, List.take_of_length_le (by simp)⟩⟩ (setRow_grown _ _ _) (below_setRow (Below.refl _ _) hb _)
    rw [hcs]
    simpa using this

/-- a block of four cells, each of which is written -/
theorem set4 {W : World} {B : Nat} {t : TypeId} {x0 x1 x2 x3 : Value} (h : W.heap[B]? = some (.cells #[x0, x1, x2, x3] t (0, 0))) (y0 y1 y2 y3 : Value) :
    ((((W.setCell ⟨B, 0, none⟩ y0).setCell ⟨B, 1, none⟩ y1).setCell ⟨B, 2, none⟩ y2).setCell ⟨B, 3, none⟩ y3).heap[B]? = some (.cells #[y0, y1, y2, y3] t (0, 0)) :=
  heap_setCell_same _ B 3 _ t y3 (heap_setCell_same _ B 2 _ t y2 (heap_setCell_same _ B 1 _ t y1 (heap_setCell_same W B 0 _ t y0 h)))

theorem set4_grown (W : World) (B : Nat) (y0 y1 y2 y3 : Value) : W.grownBy ((((W.setCell ⟨B, 0, none⟩ y0).setCell ⟨B, 1, none⟩ y1).setCell ⟨B, 2, none⟩ y2).setCell ⟨B, 3, none⟩ y3) (some B) := by
  refine ⟨rfl, rfl, rfl, by simp, fun k _ hne => ?_⟩
  have : k ≠ B := fun e => hne (by rw [e])
  rw [Below.heap_setCell _ _ _ _ this, Below.heap_setCell _ _ _ _ this, Below.heap_setCell _ _ _ _ this, Below.heap_setCell _ _ _ _ this]

end Go.Proofs.Ytiappeagdnkedaa
