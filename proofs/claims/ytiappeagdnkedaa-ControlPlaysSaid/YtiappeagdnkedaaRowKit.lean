
/-
  Rows that a call owns, of elements of several cells each; slices of such. No function of the program is named here.
-/
import Derived.Test.YtiappeagdnkedaaKit
import Derived.Test.YtiappeagdnkedaaOwn
import Derived.Test.YtiappeagdnkedaaRegion
import Derived.Maps.AppendAt
namespace Go.Proofs.Ytiappeagdnkedaa
open Go.RowKit

section
variable {α : Type} {c : α → List Value} {size : Nat}
def flatC (c : α → List Value) (xs : List α) : List Value := xs.flatMap c
theorem flatC_append (a b : List α) : flatC c (a ++ b) = flatC c a ++ flatC c b := by simp [flatC]
theorem flatC_one (x : α) : flatC c [x] = c x := by simp [flatC]
theorem flatC_length (hc : ∀ x, (c x).length = size) : ∀ xs : List α, (flatC c xs).length = xs.length * size
  | [] => by simp [flatC]
  | x :: r => by
    have := flatC_length hc r
    rw [show flatC c (x :: r) = c x ++ flatC c r from by simp [flatC], List.length_append, this, hc, List.length_cons, Nat.add_mul, Nat.one_mul, Nat.add_comm]
theorem flatC_at (hc : ∀ x, (c x).length = size) : ∀ (xs : List α) (i : Nat) (x : α), xs[i]? = some x → ∀ j, j < size → (flatC c xs)[i * size + j]? = (c x)[j]?
  | [], i, x, h, _, _ => by simp at h
  | y :: r, 0, x, h, j, hj => by
    have e : y = x := by simpa using h
    subst e
    rw [show flatC c (y :: r) = c y ++ flatC c r from by simp [flatC], Nat.zero_mul, Nat.zero_add, List.getElem?_append_left (by rw [hc]; exact hj)]
  | y :: r, i + 1, x, h, j, hj => by
    have := flatC_at hc r i x (by simpa using h) j hj
    rw [show flatC c (y :: r) = c y ++ flatC c r from by simp [flatC], show (i + 1) * size + j = (c y).length + (i * size + j) by rw [hc, Nat.add_mul, Nat.one_mul]; omega, List.getElem?_append_right (by omega), Nat.add_sub_cancel_left, this]
/-- v owns a row of these, from block base on -/
def RowC (c : α → List Value) (size : Nat) (w : World) (base : Nat) (e : TypeId) (v : Value) (xs : List α) : Prop := w.ownsRow base e size v xs.length (flatC c xs)
theorem RowC.nil (w : World) (base : Nat) (e : TypeId) : RowC c size w base e (.slice none 0 0) [] := World.ownsRow_nil _ _ _ _
theorem RowC.lt {w : World} {base : Nat} {e : TypeId} {v : Value} {xs : List α} (h : RowC c size w base e v xs) : ∀ k, v.ownBlock = some k → base ≤ k ∧ k < w.heap.size := World.ownsRow.lt h
theorem RowC.mono {w : World} {base base' : Nat} {e : TypeId} {v : Value} {xs : List α} (h : RowC c size w base e v xs) (hb : base' ≤ base) : RowC c size w base' e v xs := owned_mono h hb
theorem RowC.shape {w : World} {base : Nat} {e : TypeId} {v : Value} {xs : List α} (h : RowC c size w base e v xs) : ∃ a cap, v = .slice a xs.length cap := by
  rcases h.2 with ⟨e, h0⟩ | ⟨g, cap, cur, e, _⟩
  · exact ⟨none, 0, by rw [e, h0]⟩
  · exact ⟨_, _, e⟩
theorem RowC.of_block {w w' : World} {base : Nat} {e : TypeId} {v : Value} {xs : List α} (h : RowC c size w base e v xs) (hb : ∀ g, v.ownBlock = some g → w'.heap[g]? = w.heap[g]?) : RowC c size w' base e v xs := by
  refine ⟨h.1, h.2.imp_right ?_⟩
  rintro ⟨g, cap, cur, e1, h1, h2, h3⟩
  exact ⟨g, cap, cur, e1, h1, (hb g (by rw [e1]; rfl)).trans h2, h3⟩
theorem RowC.below {w w' : World} {base : Nat} {e : TypeId} {v : Value} {xs : List α} (h : RowC c size w base e v xs) (hb : Below w.heap.size w w') : RowC c size w' base e v xs := h.of_block fun g hg => hb.block g (h.lt g hg).2
theorem RowC.len {w : World} {base : Nat} {e : TypeId} {v : Value} {xs : List α} (h : RowC c size w base e v xs) : xs.length ≤ maxLen := by
  rcases h.2 with ⟨_, h0⟩ | ⟨g, cap, cur, _, _, _, h1, h2, _⟩
  · rw [h0]; exact Nat.zero_le _
  · exact Nat.le_trans h1 h2
/-- a slice of such, that is read -/
def SlC (c : α → List Value) (size : Nat) (w : World) (v : Value) (xs : List α) : Prop :=
  ∃ a cap, v = .slice a xs.length cap ∧ xs.length ≤ cap ∧ cap ≤ maxLen ∧
    ((xs.length = 0 ∧ (a = none → cap = 0)) ∨ ∃ b off, a = some ⟨b, off, none⟩ ∧ b < w.heap.size ∧ ∀ i x, xs[i]? = some x → ∀ j, j < size → w.cell? ⟨b, off + i * size + j, none⟩ = (c x)[j]?)
theorem SlC.below {w w' : World} {v : Value} {xs : List α} (h : SlC c size w v xs) (hb : Below w.heap.size w w') : SlC c size w' v xs := by
  obtain ⟨a, cap, rfl, h2, h3, h4⟩ := h
  refine ⟨a, cap, rfl, h2, h3, h4.imp_right ?_⟩
  rintro ⟨b, off, rfl, hl, hc⟩
  exact ⟨b, off, rfl, Nat.lt_of_lt_of_le hl hb.size, fun i x hi j hj => (hb.cell (p := ⟨b, off + i * size + j, none⟩) hl).trans (hc i x hi j hj)⟩
theorem SlC.shape {w : World} {v : Value} {xs : List α} (h : SlC c size w v xs) : ∃ a cap, v = .slice a xs.length cap ∧ xs.length ≤ cap ∧ cap ≤ maxLen := by
  obtain ⟨a, cap, e, h1, h2, _⟩ := h; exact ⟨a, cap, e, h1, h2⟩
theorem SlC.nil (w : World) : SlC c size w (.slice none 0 0) [] := ⟨none, 0, rfl, Nat.le_refl _, by simp, .inl ⟨rfl, fun _ => rfl⟩⟩
theorem SlC.at_ {w : World} {a : Option Addr} {n cap : Nat} {xs : List α} (h : SlC c size w (.slice a n cap) xs) {i : Nat} (hi : i < xs.length) :
    ∃ b off, a = some ⟨b, off, none⟩ ∧ b < w.heap.size ∧ ∀ x, xs[i]? = some x → ∀ j, j < size → w.cell? ⟨b, off + i * size + j, none⟩ = (c x)[j]? := by
  obtain ⟨a', cap', e, _, _, h3⟩ := h
  simp only [Value.slice.injEq] at e
  obtain ⟨rfl, rfl, rfl⟩ := e
  rcases h3 with ⟨h3, _⟩ | ⟨b, off, rfl, hb, hc⟩
  · omega
  · exact ⟨b, off, rfl, hb, hc i⟩
theorem RowC.toSl (hc : ∀ x, (c x).length = size) {w : World} {base : Nat} {e : TypeId} {v : Value} {xs : List α} (h : RowC c size w base e v xs) : SlC c size w v xs := by
  have h' := h
  obtain ⟨h1, h2⟩ := h
  rcases h2 with ⟨rfl, h3⟩ | ⟨g, cap, cur, rfl, hg, hblk, hnc, hcm, hcs, htake⟩
  · refine ⟨none, 0, by rw [h3], by omega, by simp, .inl ⟨h3, fun _ => rfl⟩⟩
  · refine ⟨some ⟨g, 0, none⟩, cap, rfl, hnc, hcm, .inr ⟨g, 0, rfl, (h'.lt g rfl).2, fun i x hi j hj => ?_⟩⟩
    have hil : i < xs.length := (List.getElem?_eq_some_iff.1 hi).1
    rw [Nat.zero_add, World.ownsRow.cellAt h' (i * size + j) ?_, flatC_at hc xs i x hi j hj]
    have : i * size + j < (i + 1) * size := by rw [Nat.add_mul, Nat.one_mul]; omega
    exact Nat.lt_of_lt_of_le this (Nat.mul_le_mul_right _ hil)
/-- where the new row lies: in the old one's block, or in a new one -/
def Hence (w : World) (v v' : Value) : Prop := ∀ g, v'.ownBlock = some g → v.ownBlock = some g ∨ w.heap.size ≤ g
/-- append of a row's elements, in a region that draws -/
theorem gives_rowC {P : Program} {o : Oper} {ρ : Operand → Value} {w : World} {R : Value → World → Prop} (s x : Operand) (t : TypeId) (ho : o.op = .call { callee := .builtin .append, args := #[s, x], argTypes := #[t, t] }) (base : Nat) (e : TypeId)
    (z : Value) (bytes : Nat) (ht : P.underlying t = some (.slice e)) (hi : (P.info? e).map (fun i => (i.zero, i.size, i.bytes)) = some (some z, size, bytes)) (hzs : z.cells.size = size) (hsz : 0 < size) (v : Value) (xs : List α) (hs : ρ s = v)
    (hc : ∀ x, (c x).length = size) (h1 : ∀ x, ∀ u ∈ c x, u.oneCell' = true)
    (hown : RowC c size w base e v xs) (ad : Addr) (m k : Nat) (news : List α) (hm : m = news.length) (hx : ρ x = .slice (some ad) m k)
    (hnews : ∀ (j : Nat) (u : Value), (flatC c news)[j]? = some u → w.cell? (ad.add j) = some u) (h63 : xs.length + m ≤ maxLen) (hbytes : (xs.length + m) * bytes ≤ 140737488355328) (hbase : base ≤ w.heap.size)
    (h : ∀ (v' : Value) (w' : World), RowC c size w' base e v' (xs ++ news) → w.grownBy w' v.ownBlock → Hence w v v' → R v' w') : gives P o ρ w R := by
  subst hm
  obtain ⟨i0, hi0, hz0, hz1, hz2⟩ := info_parts hi
  obtain ⟨v', w', hr, h2, h3, _, h5⟩ := run_append_own_at (P := P) w base t o.type e i0 z size bytes ht hi0 hz0 hz1 hz2 hzs hsz v xs.length (flatC c xs) hown ad news.length k (flatC c news) (flatC_length hc _) hnews (fun u hu => by
    simp only [flatC, List.mem_flatMap] at hu
    obtain ⟨x, _, hu⟩ := hu
    exact h1 x u hu) h63 hbytes hbase
  unfold gives execOp
  simp only [ho, resolve, invoke, builtin, Sem.run_bind, Sem.run_pure, Result.andThen_ok, List.map_toArray, List.map_cons, List.map_nil, hs, hx, hr]
  refine h v' w' ?_ h3 (fun g hg => ?_)
  · unfold RowC
    rw [List.length_append, flatC_append]
    exact h2
  · rcases h5 with h5 | h5
    · exact .inl (h5 ▸ hg)
    · rw [h5] at hg
      exact .inr (by cases hg; exact Nat.le_refl _)
/-- .. and as a statement of its own -/
theorem app_rowC {P : Program} {Z : World} {ops : Array Oper} {rest : List Oper} {o : Oper} {a : Act} {Q : Exit → Act → World → Prop} (hgd : o.guard = none) (s x : Operand) (t : TypeId)
    (ho : o.op = .call { callee := .builtin .append, args := #[s, x], argTypes := #[t, t] }) (base : Nat) (e : TypeId) (z : Value) (bytes : Nat) (ht : P.underlying t = some (.slice e))
    (hi : (P.info? e).map (fun i => (i.zero, i.size, i.bytes)) = some (some z, size, bytes)) (hzs : z.cells.size = size) (hsz : 0 < size) (v : Value) (xs : List α) (hs : a.eval s = v)
    (hc : ∀ x, (c x).length = size) (h1 : ∀ x, ∀ u ∈ c x, u.oneCell' = true) (hr : RowC c size Z base e v xs) (ad : Addr) (m k : Nat) (news : List α) (hm : m = news.length) (hx : a.eval x = .slice (some ad) m k)
    (hnews : ∀ (j : Nat) (u : Value), (flatC c news)[j]? = some u → Z.cell? (ad.add j) = some u) (h63 : xs.length + m ≤ maxLen) (hbytes : (xs.length + m) * bytes ≤ 140737488355328) (hbase : base ≤ Z.heap.size)
    (h : ∀ (v' : Value) (Z' : World), RowC c size Z' base e v' (xs ++ news) → Z.grownBy Z' v.ownBlock → wpList P ops Q rest (a.put o.dst v') Z') : wpList P ops Q (o :: rest) a Z := by
  subst hm
  obtain ⟨i0, hi0, hz0, hz1, hz2⟩ := info_parts hi
  refine wpList_append_own_at Z hgd s x t ho base e i0 z size bytes ht hi0 hz0 hz1 hz2 hzs hsz v xs.length (flatC c xs) hs hr ad news.length k (flatC c news) hx (flatC_length hc _) hnews (fun u hu => by
    simp only [flatC, List.mem_flatMap] at hu
    obtain ⟨x, _, hu⟩ := hu
    exact h1 x u hu) h63 hbytes hbase ?_
  intro v' Z' hown hg _ _
  refine h v' Z' ?_ hg
  unfold RowC
  rw [List.length_append, flatC_append]
  exact hown
/-- one element in a block of its own, as append's source -/
theorem one_at {w : World} {g : Nat} {e : TypeId} {x : α} (h : w.heap[g]? = some (.cells (c x).toArray e (0, 0))) : ∀ (j : Nat) (u : Value), (flatC c [x])[j]? = some u → w.cell? ((⟨g, 0, none⟩ : Addr).add j) = some u := by
  intro j u hj
  rw [flatC_one] at hj
  rw [show (⟨g, 0, none⟩ : Addr).add j = ⟨g, j, none⟩ by simp [Go.WideShapes.add_plain]]
  exact blk_cell h (by simpa using hj)
/-- the block g holds these cells -/
def BlkAt (W : World) (g : Nat) (e : TypeId) (cs : Array Value) : Prop := W.heap[g]? = some (.cells cs e (0, 0))
theorem BlkAt.new (w : World) (e : TypeId) (cs : Array Value) : BlkAt (w.alloc (.cells cs e)) w.heap.size e cs := heap_alloc_new w _
theorem BlkAt.lt {W : World} {g : Nat} {e : TypeId} {cs : Array Value} (h : BlkAt W g e cs) : g < W.heap.size := (Array.getElem?_eq_some_iff.1 h).1
theorem BlkAt.grown {W W' : World} {g : Nat} {e : TypeId} {cs : Array Value} (h : BlkAt W g e cs) (hb : Below W.heap.size W W') : BlkAt W' g e cs := (hb.block g h.lt).trans h
theorem grownBy_of {w w' : World} {r : Option Nat} (h : Below w.heap.size w w') : w.grownBy w' r := ⟨h.os, h.tape, h.output, h.size, fun k hk _ => h.block k hk⟩
/-- what lies below the rows' base stays, whatever becomes of the row -/
theorem RowC.keeps {W Z Z' : World} {e : TypeId} {v : Value} {xs : List α} (hb : Below W.heap.size W Z) (hr : RowC c size Z W.heap.size e v xs) (hg : Z.grownBy Z' v.ownBlock) : Below W.heap.size W Z' :=
  hb.trans ⟨hg.os, hg.tape, hg.output, hg.size, fun k hk => hg.block k (Nat.lt_of_lt_of_le hk hb.size) (fun e => by have := (hr.lt k e.symm).1; omega)⟩
end
end Go.Proofs.Ytiappeagdnkedaa
