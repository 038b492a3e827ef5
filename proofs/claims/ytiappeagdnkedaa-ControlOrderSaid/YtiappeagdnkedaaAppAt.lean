
/-
  Rows that a call itself makes and appends to, as in XOwn, with where the result lies. No program is named here.
-/
import Derived.Test.YtiappeagdnkedaaOwn
import Derived.Test.YtiappeagdnkedaaFrameList
import Derived.Maps.AppendAt
namespace Go.Proofs.Ytiappeagdnkedaa
open Go.RowKit Go.Maps

/-- 'append(s, x...)': s a row of the call's own, x whatever; it may grow -/
theorem app_row_at {P : Program} {w : World} {ops : Array Oper} {rest : List Oper} {o : Oper} {a : Act} {Q : Exit → Act → World → Prop} (hgd : o.guard = none)
    (s x : Operand) (t : TypeId) (ho : o.op = .call { callee := .builtin .append, args := #[s, x], argTypes := #[t, t] }) (base : Nat) (e : TypeId) (i : TypeInfo)
    (z : Value) (size bytes : Nat) (ht : P.underlying t = some (.slice e)) (hi : P.info? e = some i) (hz : i.zero = some z) (hsize : i.size = size) (hby : i.bytes = bytes)
    (hzs : z.cells.size = size) (hsz : 0 < size) (v : Value) (n : Nat) (xs : List Value) (hs : a.eval s = v) (hown : w.ownsRow base e size v n xs) (ao : Option Addr) (m c : Nat) (news : List Value)
    (hx : a.eval x = .slice ao m c) (hnone : ao = none → m = 0 ∧ c = 0) (hl : news.length = m * size) (hnews : ∀ ad, ao = some ad → ∀ (j : Nat) (u : Value), news[j]? = some u → w.cell? (ad.add j) = some u)
    (h1 : ∀ u, u ∈ news → u.oneCell' = true) (h63 : n + m ≤ maxLen) (hbytes : (n + m) * bytes ≤ 140737488355328) (hbase : base ≤ w.heap.size)
    (h : ∀ (v' : Value) (w' : World), w'.ownsRow base e size v' (n + m) (xs ++ news) → Below base w w' → w.grownBy w' v.ownBlock → (v'.ownBlock = v.ownBlock ∨ v'.ownBlock = some w.heap.size) → wpList P ops Q rest (a.put o.dst v') w') : wpList P ops Q (o :: rest) a w := by
  cases ao with
  | none =>
    obtain ⟨rfl, rfl⟩ := hnone rfl
    have hn : news = [] := List.eq_nil_of_length_eq_zero (by simpa using hl)
    subst hn
    refine wpList_append_own_none hgd s x t ho base e i size ht hi _ n xs hs hown hx ?_
    exact h v w (by simpa using hown) (Below.refl _ _) (World.grownBy.refl _ _) (.inl rfl)
  | some ad =>
    refine wpList_append_own_at w hgd s x t ho base e i z size bytes ht hi hz hsize hby hzs hsz v n xs hs hown ad m c news hx hl (hnews ad rfl) h1 h63 hbytes hbase ?_
    intro v' w' hown' hgrow _ hat
    exact h v' w' hown' ((Below.refl _ _).grown hgrow hbase (fun k hk => (hown.lt k hk).1)) hgrow hat
/-- the same, of integers -/
theorem app_ints_at {P : Program} {w : World} {ops : Array Oper} {rest : List Oper} {o : Oper} {a : Act} {Q : Exit → Act → World → Prop} (hgd : o.guard = none)
    (s x : Operand) (t : TypeId) (ho : o.op = .call { callee := .builtin .append, args := #[s, x], argTypes := #[t, t] }) (base : Nat) (e : TypeId) (k : IntKind) (bytes : Nat) (ht : P.underlying t = some (.slice e))
    (hi : (P.info? e).map (fun i => (i.zero, i.size, i.bytes)) = some (some (.int k 0), 1, bytes)) (v : Value) (n : Nat) (xs : List Int) (hs : a.eval s = v) (hown : w.ownsRow base e 1 v n (xs.map (Value.int k))) (x' : Value) (ys : List Int)
    (hx : a.eval x = x') (hsrc : Sl k w x' ys) (hlen : (xs.length + ys.length) * bytes ≤ 140737488355328) (hm : xs.length + ys.length ≤ maxLen) (hbase : base ≤ w.heap.size)
    (h : ∀ (v' : Value) (w' : World), w'.ownsRow base e 1 v' (xs.length + ys.length) ((xs ++ ys).map (Value.int k)) → Below base w w' → w.grownBy w' v.ownBlock → (v'.ownBlock = v.ownBlock ∨ v'.ownBlock = some w.heap.size) → wpList P ops Q rest (a.put o.dst v') w') : wpList P ops Q (o :: rest) a w := by
  obtain ⟨i0, hi0, hz0, hz1, hz2⟩ := info_parts hi
  have hn : n = xs.length := by have := hown.1; simpa using this.symm
  subst hn
  obtain ⟨ao, c, e', _⟩ := id hsrc
  subst e'
  refine app_row_at hgd s x t ho base e i0 (.int k 0) 1 bytes ht hi0 hz0 hz1 hz2 rfl (by decide) v xs.length (xs.map (Value.int k)) hs hown ao ys.length c (ys.map (Value.int k)) hx ?_ (by simp) ?_ (ints_oneCell _ _) hm hlen hbase ?_
  · intro h0; subst h0; exact hsrc.bare
  · intro ad h0; subst h0
    by_cases h0 : 0 < ys.length
    · obtain ⟨ad', e', hc⟩ := hsrc.cells h0
      cases e'
      exact hc
    · intro j u hj
      obtain rfl : ys = [] := List.eq_nil_of_length_eq_zero (by omega)
      simp at hj
  · intro v' w' hown' hb hg hat
    exact h v' w' (by simpa using hown') hb hg hat

/-- the same, of frames that lie in another row of the call's own -/
theorem app_frames_at {P : Program} {w : World} {ops : Array Oper} {rest : List Oper} {o : Oper} {a : Act} {Q : Exit → Act → World → Prop} (hgd : o.guard = none)
    (s x : Operand) (t : TypeId) (ho : o.op = .call { callee := .builtin .append, args := #[s, x], argTypes := #[t, t] }) (base base2 : Nat) (e : TypeId) (ht : P.underlying t = some (.slice e))
    (hi : (P.info? e).map (fun i => (i.zero, i.size, i.bytes)) = some (some (.agg #[.int .i64 0, .int .i64 0, .int .i64 0, .slice none 0 0]), 4, 48)) (v : Value) (ps : List (Fr × Value)) (hs : a.eval s = v) (hown : w.ownsRow base e 4 v ps.length (flat ps)) (x' : Value) (qs : List (Fr × Value))
    (hx : a.eval x = x') (hsrc : w.ownsRow base2 e 4 x' qs.length (flat qs)) (hq : ∀ p ∈ qs, ∃ b n c, p.2 = .slice b n c) (hlen : ps.length + qs.length ≤ 1000000) (hbase : base ≤ w.heap.size)
    (h : ∀ (v' : Value) (w' : World), w'.ownsRow base e 4 v' (ps ++ qs).length (flat (ps ++ qs)) → Below base w w' → w.grownBy w' v.ownBlock → (v'.ownBlock = v.ownBlock ∨ v'.ownBlock = some w.heap.size) → wpList P ops Q rest (a.put o.dst v') w') : wpList P ops Q (o :: rest) a w := by
  obtain ⟨i0, hi0, hz0, hz1, hz2⟩ := info_parts hi
  obtain ⟨ao, c, e', hnone⟩ := owned_shape hsrc
  subst e'
  refine app_row_at hgd s x t ho base e i0 _ 4 48 ht hi0 hz0 hz1 hz2 rfl (by decide) v ps.length (flat ps) hs hown ao qs.length c (flat qs) hx hnone (flat_length qs) ?_ ?_ (by unfold maxLen; omega) (by omega) hbase ?_
  · intro ad h0 j u hj
    subst h0
    obtain ⟨_, ⟨h1, _⟩ | ⟨g, cap, cur, h1, _, _⟩⟩ := id hsrc
    · cases h1
    · simp only [Value.slice.injEq, Option.some.injEq] at h1
      obtain ⟨rfl, -, rfl⟩ := h1
      have hjl : j < (flat qs).length := (List.getElem?_eq_some_iff.1 hj).1
      rw [Go.WideShapes.add_plain, Nat.zero_add, hsrc.cellAt j (by rw [flat_length] at hjl; exact hjl)]
      exact hj
  · intro u hu
    simp only [flat, List.mem_flatMap] at hu
    obtain ⟨p, hp, hu⟩ := hu
    obtain ⟨b, n, c', e⟩ := hq p hp
    rw [e] at hu
    exact frCells_one p.1 u hu
  · intro v' w' hown' hb hg hat
    exact h v' w' (by rw [List.length_append, flat_append]; exact hown') hb hg hat
end Go.Proofs.Ytiappeagdnkedaa
