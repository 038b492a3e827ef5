/-
  Several texts of mine, one behind the other: Kit, Own, Region, ItTab, ItRow, PrefMath, PrefWalks, Same, PrefEnc, Bits, PrefDec, ItKind, HuffTab, HuffMath, HuffArr, HuffEncMath, Range, HuffIter, HuffLen, HuffSmall, HuffCodes, HuffPaths.
-/
import Derived.WalkKit
import Derived.Lib.Hide
import Derived.WalkSmall
import Derived.Laws.CopyOwn
import Derived.OpenShut
import Derived.WideShapes
import Derived.Deep.Draws
import Derived.Laws.AppendOwnNone
import Derived.StillTail
import Derived.ArgAppend
import Derived.Test.YtenapfpkegoonaaDoorProg
import Derived.Deep.WholeRow
import Derived.Deep.QuietTactic
import Derived.BigQuiet
import Derived.WalkMore
import Derived.Deep.LoopGhost
import Derived.Outline
import Derived.Laws.BitsAllLaws
import Derived.RangeFuncNested
import Derived.RangeFuncLeaves
import Derived.OwnWalkIn
import Derived.TacticsInMore
import Derived.LoopNIn
import Derived.LoopIn
import Derived.Maps.OwnSet

/-
  What slices of integers that are only read are, in a world, and how that is kept: words for the walks of this seat. No program is named here.
-/
namespace Go.Proofs.YtenapfpkegoonaaDoor
open Go.RowKit

/-- the number at a place of a list, 0 behind its end: a name of its own, so that no rule takes it apart -/
def at0 (zs : List Int) (i : Nat) : Int := zs.getD i 0
theorem at0_nil (i : Nat) : at0 [] i = 0 := by simp [at0]
theorem at0_take {zs : List Int} {n i : Nat} (h : i < n) : at0 (zs.take n) i = at0 zs i := by simp [at0, h]
theorem at0_drop (zs : List Int) (n i : Nat) : at0 (zs.drop n) i = at0 zs (n + i) := by simp [at0]
theorem at0_mem {zs : List Int} {i : Nat} (h : i < zs.length) : at0 zs i ∈ zs := by simp [at0, h]
theorem take_at0 (zs : List Int) (k : Nat) (h : k < zs.length) : zs.take (k + 1) = zs.take k ++ [at0 zs k] := by
  rw [List.take_succ_eq_append_getElem h]; simp [at0, h]
theorem ext_at0 {xs ys : List Int} (hl : xs.length = ys.length) (h : ∀ i, i < xs.length → at0 xs i = at0 ys i) : xs = ys := by
  apply List.ext_getElem hl
  intro i h1 h2
  have := h i h1
  simpa [at0, h1, h2] using this

/-- each number fits its kind -/
def Fit (k : IntKind) (zs : List Int) : Prop := ∀ n ∈ zs, (Lit.int k n).wf = true
theorem Fit.at0 {k : IntKind} {zs : List Int} (h : Fit k zs) (i : Nat) : (Lit.int k (at0 zs i)).wf = true := by
  by_cases hi : i < zs.length
  · exact h _ (at0_mem hi)
  · have e : YtenapfpkegoonaaDoor.at0 zs i = 0 := by simp [YtenapfpkegoonaaDoor.at0, List.getElem?_eq_none (by omega : zs.length ≤ i)]
    rw [e]; cases k <;> decide
theorem Fit.byte {zs : List Int} (h : Fit .u8 zs) (i : Nat) : 0 ≤ YtenapfpkegoonaaDoor.at0 zs i ∧ YtenapfpkegoonaaDoor.at0 zs i ≤ 255 := bounds_u8 (h.at0 i)
theorem Fit.take {k : IntKind} {zs : List Int} (h : Fit k zs) (n : Nat) : Fit k (zs.take n) := fun x hx => h x (List.mem_of_mem_take hx)
theorem Fit.drop {k : IntKind} {zs : List Int} (h : Fit k zs) (n : Nat) : Fit k (zs.drop n) := fun x hx => h x (List.mem_of_mem_drop hx)

/-- the value 'v' is a slice that reads as 'zs' -/
def Sl (k : IntKind) (w : World) (v : Value) (zs : List Int) : Prop :=
  ∃ a cap, v = .slice a zs.length cap ∧ zs.length ≤ cap ∧ cap ≤ maxLen ∧ Fit k zs ∧
    ((zs.length = 0 ∧ (a = none → cap = 0)) ∨ ∃ b off, a = some ⟨b, off, none⟩ ∧ b < w.heap.size ∧ ∀ i, i < zs.length → w.cell? ⟨b, off + i, none⟩ = some (.int k (at0 zs i)))

theorem Sl.fit {k : IntKind} {w : World} {v : Value} {zs : List Int} (h : Sl k w v zs) : Fit k zs := by
  obtain ⟨_, _, _, _, _, h, _⟩ := h; exact h
theorem Sl.len {k : IntKind} {w : World} {v : Value} {zs : List Int} (h : Sl k w v zs) : zs.length ≤ maxLen := by
  obtain ⟨_, _, _, h1, h2, _⟩ := h; exact Nat.le_trans h1 h2
theorem Sl.nil (k : IntKind) (w : World) : Sl k w (.slice none 0 0) [] := ⟨none, 0, rfl, Nat.le_refl _, by simp, fun x hx => by simp at hx, .inl ⟨rfl, fun _ => rfl⟩⟩
/-- empty; or with an address -/
theorem Sl.parts {k : IntKind} {w : World} {v : Value} {zs : List Int} (h : Sl k w v zs) :
    (zs = [] ∧ ∃ a cap, v = .slice a 0 cap) ∨
    (0 < zs.length ∧ ∃ b off cap, v = .slice (some ⟨b, off, none⟩) zs.length cap ∧ zs.length ≤ cap ∧ cap ≤ maxLen ∧ b < w.heap.size ∧ ∀ i, i < zs.length → w.cell? ⟨b, off + i, none⟩ = some (.int k (at0 zs i))) := by
  obtain ⟨a, cap, rfl, h1, h2, _, h3⟩ := h
  by_cases h0 : zs.length = 0
  · left
    obtain rfl := List.eq_nil_of_length_eq_zero h0
    exact ⟨rfl, a, cap, rfl⟩
  · right
    rcases h3 with ⟨h3, _⟩ | ⟨b, off, rfl, hb, hc⟩
    · exact absurd h3 h0
    · exact ⟨by omega, b, off, cap, rfl, h1, h2, hb, hc⟩
/-- a slice without an address has no room -/
theorem Sl.bare {k : IntKind} {w : World} {n cap : Nat} {zs : List Int} (h : Sl k w (.slice none n cap) zs) : n = 0 ∧ cap = 0 := by
  obtain ⟨a, c, e, _, _, _, h3⟩ := h
  simp only [Value.slice.injEq] at e
  obtain ⟨rfl, rfl, rfl⟩ := e
  rcases h3 with ⟨h3, h4⟩ | ⟨b, off, e, _⟩
  · exact ⟨h3, h4 rfl⟩
  · cases e
theorem Sl.below {k : IntKind} {w w' : World} {v : Value} {zs : List Int} (h : Sl k w v zs) (hb : Below w.heap.size w w') : Sl k w' v zs := by
  obtain ⟨a, cap, rfl, h1, h2, h4, h3⟩ := h
  refine ⟨a, cap, rfl, h1, h2, h4, ?_⟩
  rcases h3 with h3 | ⟨b, off, rfl, hlt, hc⟩
  · exact .inl h3
  · exact .inr ⟨b, off, rfl, Nat.lt_of_lt_of_le hlt hb.size, fun i hi => (hb.cell (p := ⟨b, off + i, none⟩) hlt).trans (hc i hi)⟩
theorem Sl.drewN {k : IntKind} {w : World} {v : Value} {zs : List Int} (h : Sl k w v zs) (n : Nat) : Sl k (w.drewN n) v zs := h.below (below_drewN (Below.refl _ _) n)
theorem Sl.drew {k : IntKind} {w : World} {v : Value} {zs : List Int} (h : Sl k w v zs) : Sl k w.drew v zs := h.below (Below.refl _ _).drew
theorem Sl.alloc {k : IntKind} {w : World} {v : Value} {zs : List Int} (h : Sl k w v zs) (o : Obj) : Sl k (w.alloc o) v zs := h.below ((Below.refl _ _).alloc (Nat.le_refl _) o)

theorem drawn1 (w : World) (a : Nat) : ∃ n, w.drewN a = w.drewN n := ⟨a, rfl⟩
theorem drawn2 (w : World) (a b : Nat) : ∃ n, (w.drewN a).drewN b = w.drewN n := ⟨a + b, by rw [World.drewN_drewN]⟩
theorem drawn3 (w : World) (a b c : Nat) : ∃ n, ((w.drewN a).drewN b).drewN c = w.drewN n := ⟨a + (b + c), by rw [World.drewN_drewN, World.drewN_drewN]⟩
/-- what a call owns reads so -/
theorem Sl.owned {k : IntKind} {w : World} {base : Nat} {e : TypeId} {v : Value} {zs : List Int} (h : w.ownsRow base e 1 v zs.length (zs.map (Value.int k))) (hf : Fit k zs) (hm : zs.length ≤ maxLen) : Sl k w v zs := by
  have h' := h
  obtain ⟨h1, h2⟩ := h
  rcases h2 with ⟨rfl, h3⟩ | ⟨g, cap, cur, rfl, hg, hblk, hnc, hcm, hcs, htake⟩
  · have e0 : zs = [] := by simpa using h3
    subst e0
    exact Sl.nil k w
  · refine ⟨some ⟨g, 0, none⟩, cap, rfl, hnc, hcm, hf, .inr ⟨g, 0, rfl, ?_, fun i hi => ?_⟩⟩
    · exact (h'.lt g rfl).2
    · have := h'.cellAt i (by omega)
      rw [Nat.zero_add, this]
      simp [at0, hi]

/-- a cell of what a call owns -/
theorem owned_cell {k : IntKind} {w : World} {base g n cap : Nat} {e : TypeId} {zs : List Int} (h : w.ownsRow base e 1 (.slice (some ⟨g, 0, none⟩) n cap) n (zs.map (Value.int k))) (j : Nat) (hj : j < n) :
    w.cell? ⟨g, j, none⟩ = some (.int k (at0 zs j)) := by
  have hl := h.1
  rw [List.length_map, Nat.mul_one] at hl
  rw [h.cellAt j (by omega)]
  simp [at0, show j < zs.length by omega]
theorem owned_store {k : IntKind} {w : World} {base g n cap : Nat} {e : TypeId} {zs : List Int} (h : w.ownsRow base e 1 (.slice (some ⟨g, 0, none⟩) n cap) n (zs.map (Value.int k))) (j : Nat) (z : Int) :
    (w.setCell ⟨g, j, none⟩ (.int k z)).ownsRow base e 1 (.slice (some ⟨g, 0, none⟩) n cap) n ((zs.set j z).map (Value.int k)) := by
  have := (h.stored j (.int k z)).1
  rwa [← List.map_set] at this
theorem made_zeros {k : IntKind} {w : World} {base n : Nat} {e : TypeId} {v : Value} (h : w.ownsRow base e 1 v n (madeCells (Value.int k 0).cells (n * 1)).toList) : w.ownsRow base e 1 v n ((List.replicate n 0).map (Value.int k)) := by
  rw [List.map_replicate]
  have e1 : (Value.int k 0).cells = #[.int k 0] := rfl
  rw [e1, toList_madeCells_one, Nat.mul_one] at h
  exact h

/-- a row that is full is its block -/
theorem own_block {w : World} {base g n : Nat} {e : TypeId} {xs : List Value} (h : w.ownsRow base e 1 (.slice (some ⟨g, 0, none⟩) n n) n xs) : w.heap[g]? = some (.cells xs.toArray e (0, 0)) := by
  obtain ⟨h1, h2⟩ := h
  rcases h2 with ⟨h2, _⟩ | ⟨g', cap, cur, h2, _, hg, _, _, hcs, ht⟩
  · simp at h2
  · simp only [Value.slice.injEq, Option.some.injEq, Addr.mk.injEq, and_true, true_and] at h2
    obtain ⟨rfl, rfl⟩ := h2
    rw [hg, ← ht, List.take_of_length_le (by rw [Array.length_toList]; omega)]
theorem Sl.block {k : IntKind} {w : World} {g : Nat} {e : TypeId} {zs : List Int} (h : w.heap[g]? = some (.cells (zs.map (Value.int k)).toArray e (0, 0))) (hf : Fit k zs) (hm : zs.length ≤ maxLen) :
    Sl k w (.slice (some ⟨g, 0, none⟩) zs.length zs.length) zs :=
  Sl.owned (base := 0) (e := e) ⟨by simp, .inr ⟨g, zs.length, _, rfl, Nat.zero_le _, h, Nat.le_refl _, hm, by simp, List.take_of_length_le (by simp)⟩⟩ hf hm
/-- a list of numbers that was just laid -/
theorem Sl.lit {k : IntKind} {w : World} {g n : Nat} {e : TypeId} {cs : Array Value} (zs : List Int) (hg : g = w.heap.size) (hc : cs = (zs.map (Value.int k)).toArray) (hn : n = zs.length) (hf : zs.all (fun n => (Lit.int k n).wf) = true) (hm : zs.length ≤ maxLen) :
    Sl k (w.alloc (.cells cs e)) (.slice (some ⟨g, 0, none⟩) n n) zs := by
  subst hg; subst hc; subst hn
  exact Sl.block (e := e) (heap_alloc_new w _) (fun n h => by simpa using List.all_eq_true.1 hf n h) hm
/-- the cells that lie there, one behind the other -/
theorem Sl.cells {k : IntKind} {w : World} {a : Option Addr} {n cap : Nat} {zs : List Int} (h : Sl k w (.slice a n cap) zs) : 0 < zs.length → ∃ ad, a = some ad ∧ ∀ j v, (zs.map (Value.int k))[j]? = some v → w.cell? (ad.add j) = some v := by
  intro h0
  obtain ⟨a', cap', e, _, _, _, h3⟩ := h
  simp only [Value.slice.injEq] at e
  obtain ⟨rfl, rfl, rfl⟩ := e
  rcases h3 with ⟨h3, _⟩ | ⟨b, off, rfl, _, hc⟩
  · omega
  · refine ⟨_, rfl, fun j v hj => ?_⟩
    have hlt : j < zs.length := by
      have := List.getElem?_eq_some_iff.1 hj
      obtain ⟨h, _⟩ := this
      simpa using h
    rw [Go.WideShapes.add_plain, hc j hlt]
    simp [hlt] at hj
    rw [← hj]
    simp [at0, hlt]
/-- one of its cells -/
theorem Sl.at_ {k : IntKind} {w : World} {b off n cap : Nat} {zs : List Int} (h : Sl k w (.slice (some ⟨b, off, none⟩) n cap) zs) (i : Nat) (hi : i < zs.length) : w.cell? ⟨b, off + i, none⟩ = some (.int k (at0 zs i)) := by
  obtain ⟨a', cap', e, _, _, _, h3⟩ := h
  simp only [Value.slice.injEq] at e
  obtain ⟨e1, rfl, rfl⟩ := e
  rcases h3 with ⟨h3, _⟩ | ⟨b', off', e2, _, hc⟩
  · omega
  · rw [← e1] at e2
    simp only [Option.some.injEq, Addr.mk.injEq, and_true] at e2
    obtain ⟨rfl, rfl⟩ := e2
    exact hc i hi
theorem splice_whole {α : Type} (l m : List α) (h : m.length = l.length) : splice l 0 m = m := by simp [splice, h]
/-- a cut of a slice: 'v[lo:hi]', at whatever capacity -/
theorem Sl.run_cut {k : IntKind} {w : World} {a : Option Addr} {n cap : Nat} {zs : List Int}
    (h : Sl k w (.slice a n cap) zs) (lo hi : Nat) (h1 : lo ≤ hi) (h2 : hi ≤ zs.length) : Sl k w (sliced a lo hi cap 1) ((zs.take hi).drop lo) := by
  have hfit := h.fit
  obtain ⟨a', cap', e, hc1, hc2, _, h3⟩ := h
  simp only [Value.slice.injEq] at e
  obtain ⟨rfl, rfl, rfl⟩ := e
  have el : ((zs.take hi).drop lo).length = hi - lo := by simp; omega
  refine ⟨if cap = lo then a else a.map (·.add (lo * 1)), cap - lo, by rw [el]; rfl, by omega, by omega, (hfit.take hi).drop lo, ?_⟩
  by_cases h0 : hi - lo = 0
  · refine .inl ⟨by omega, fun he => ?_⟩
    by_cases hcl : cap = lo
    · omega
    · rw [if_neg hcl] at he
      rcases h3 with ⟨_, h3⟩ | ⟨b, off, rfl, _⟩
      · cases a with
        | none => have := h3 rfl; omega
        | some x => simp at he
      · simp at he
  · right
    rcases h3 with ⟨h3, _⟩ | ⟨b, off, rfl, hb, hc⟩
    · omega
    · refine ⟨b, off + lo, ?_, hb, fun i hi' => ?_⟩
      · rw [if_neg (by omega), Nat.mul_one]
        simp [Go.WideShapes.add_plain]
      · rw [at0_drop, at0_take (by omega), ← hc (lo + i) (by omega), Nat.add_assoc]
/-- 'v[lo:]': its run, under a name -/
theorem Sl.from_ {P : Program} {t : TypeId} (ht : P.underlying t = some (.slice (P.elem t))) (he : ∀ w, (sizeOf (P.elem t)).run P w = .ok 1 w) {k : IntKind} {w : World} {a : Option Addr} {n cap : Nat} {zs : List Int}
    (h : Sl k w (.slice a n cap) zs) (lo : Int) (h0 : 0 ≤ lo) (h1 : lo ≤ zs.length) :
    ∃ v, (∀ (kl : IntKind) (w1 : World), (Instr.slice t (.slice a n cap) (some (.int kl lo)) none none).run P w1 = .ok v w1) ∧ Sl k w v (zs.drop lo.toNat) := by
  have hn : n = zs.length := by obtain ⟨_, _, e, _⟩ := h; simp only [Value.slice.injEq] at e; exact e.2.1
  refine ⟨sliced a lo.toNat n cap 1, fun kl w1 => ?_, ?_⟩
  · rw [run_slice_l w1 t a n cap ht kl lo h0 (by omega), he]; rfl
  · have := Sl.run_cut h lo.toNat n (by omega) (by omega)
    rwa [List.take_of_length_le (by omega)] at this
/-- 'v[:hi]': its run, under a name -/
theorem Sl.upto {P : Program} {t : TypeId} (ht : P.underlying t = some (.slice (P.elem t))) (he : ∀ w, (sizeOf (P.elem t)).run P w = .ok 1 w) {k : IntKind} {w : World} {a : Option Addr} {n cap : Nat} {zs : List Int}
    (h : Sl k w (.slice a n cap) zs) (hi : Int) (h0 : 0 ≤ hi) (h1 : hi ≤ zs.length) :
    ∃ v, (∀ (kl : IntKind) (w1 : World), (Instr.slice t (.slice a n cap) none (some (.int kl hi)) none).run P w1 = .ok v w1) ∧ Sl k w v (zs.take hi.toNat) := by
  have hcap : zs.length ≤ cap := by obtain ⟨_, _, e, h, _⟩ := h; simp only [Value.slice.injEq] at e; obtain ⟨rfl, rfl, rfl⟩ := e; exact h
  refine ⟨sliced a 0 hi.toNat cap 1, fun kl w1 => ?_, ?_⟩
  · rw [run_slice_h w1 t a n cap ht kl hi h0 (by omega), he]; rfl
  · have := Sl.run_cut h 0 hi.toNat (by omega) (by omega)
    rwa [List.drop_zero] at this

/-- 'v[lo:hi]': its run, under a name -/
theorem Sl.range {P : Program} {t : TypeId} (ht : P.underlying t = some (.slice (P.elem t))) (he : ∀ w, (sizeOf (P.elem t)).run P w = .ok 1 w) {k : IntKind} {w : World} {a : Option Addr} {n cap : Nat} {zs : List Int}
    (h : Sl k w (.slice a n cap) zs) (lo hi : Int) (h0 : 0 ≤ lo) (h1 : lo ≤ hi) (h2 : hi ≤ zs.length) :
    ∃ v, (∀ (kl kh : IntKind) (w1 : World), (Instr.slice t (.slice a n cap) (some (.int kl lo)) (some (.int kh hi)) none).run P w1 = .ok v w1) ∧ Sl k w v ((zs.take hi.toNat).drop lo.toNat) := by
  have hcap : zs.length ≤ cap := by obtain ⟨_, _, e, h, _⟩ := h; simp only [Value.slice.injEq] at e; obtain ⟨rfl, rfl, rfl⟩ := e; exact h
  refine ⟨sliced a lo.toNat hi.toNat cap 1, fun kl kh w1 => ?_, Sl.run_cut h lo.toNat hi.toNat (by omega) (by omega)⟩
  rw [run_slice_lh w1 t a n cap ht kl kh lo hi h0 h1 (by omega), he]; rfl

/-- an argument that came in -/
theorem Sl.of_row {k : IntKind} {w : World} {a : Option Addr} {len cap : Nat} {zs : List Int} (hl : len ≤ cap) (hm : cap ≤ maxLen) (hz : zs.length = cap) (hw : ∀ n ∈ zs, (Lit.int k n).wf = true)
    (hc : ∀ x, a = some x → ∀ i, i < zs.length → w.cell? (x.add i) = some (.int k (zs.getD i 0))) (hn : a = none → cap = 0) : Sl k w (.slice a len cap) (zs.take len) := by
  have e : (zs.take len).length = len := by simp; omega
  refine ⟨a, cap, by rw [e], by omega, hm, fun n hn => hw n (List.mem_of_mem_take hn), ?_⟩
  rw [e]
  by_cases h0 : len = 0
  · exact .inl ⟨h0, hn⟩
  · right
    cases a with
    | none => have := hn rfl; omega
    | some x =>
      obtain ⟨b, off, spot⟩ := x
      have hc0 := hc _ rfl 0 (by omega)
      have hspot : spot = none := by simpa [Addr.add] using World.cell?_spot hc0
      subst hspot
      refine ⟨b, off, rfl, ?_, fun i hi => ?_⟩
      · simp only [Addr.add, Nat.add_zero] at hc0
        by_cases hb : b < w.heap.size
        · exact hb
        · simp [World.cell?, Array.getElem?_eq_none (by omega : w.heap.size ≤ b)] at hc0
      · have := hc _ rfl i (by omega)
        rw [at0_take hi, ← Go.WideShapes.add_plain]
        exact this

end Go.Proofs.YtenapfpkegoonaaDoor

/-
  Rows that a call itself makes and appends to, from whatever source: one law for the walk. No program is named here.
-/
namespace Go.Proofs.YtenapfpkegoonaaDoor
open Go.RowKit

/-- an owned slice has a length and a capacity -/
theorem owned_shape {w : World} {base : Nat} {e : TypeId} {size n : Nat} {v : Value} {xs : List Value} (h : w.ownsRow base e size v n xs) : ∃ ao cap, v = .slice ao n cap ∧ (ao = none → n = 0 ∧ cap = 0) := by
  obtain ⟨_, ⟨rfl, rfl⟩ | ⟨g, cap, cur, rfl, _⟩⟩ := h
  · exact ⟨none, 0, rfl, fun _ => ⟨rfl, rfl⟩⟩
  · exact ⟨_, cap, rfl, fun h => by cases h⟩
/-- what is owned from one number on is owned from a lesser one on -/
theorem owned_mono {w : World} {base base' : Nat} {e : TypeId} {size n : Nat} {v : Value} {xs : List Value} (h : w.ownsRow base e size v n xs) (hb : base' ≤ base) : w.ownsRow base' e size v n xs := by
  obtain ⟨h1, h2⟩ := h
  refine ⟨h1, h2.imp_right ?_⟩
  rintro ⟨g, cap, cur, rfl, hg, h3⟩
  exact ⟨g, cap, cur, rfl, Nat.le_trans hb hg, h3⟩
/-- an owned row stays so where what lay stays -/
theorem owned_below {w w' : World} {base : Nat} {e : TypeId} {size n : Nat} {v : Value} {xs : List Value} (h : w.ownsRow base e size v n xs) (hb : Below w.heap.size w w') : w'.ownsRow base e size v n xs := by
  obtain ⟨h1, h2⟩ := h
  refine ⟨h1, h2.imp_right ?_⟩
  rintro ⟨g, cap, cur, rfl, hg, hh, h3⟩
  exact ⟨g, cap, cur, rfl, hg, (hb.block g (Array.getElem?_eq_some_iff.1 hh).1).trans hh, h3⟩
theorem owned_block {w : World} {base : Nat} {e : TypeId} {size n : Nat} {v : Value} {xs : List Value} (h : w.ownsRow base e size v n xs) : ∀ g, v.ownBlock = some g → base ≤ g ∧ g < w.heap.size := h.lt
/-- a row that another row's growth leaves -/
theorem owned_kept {w w' : World} {base : Nat} {e : TypeId} {size n : Nat} {v : Value} {xs : List Value} {row : Option Nat} (h : w.ownsRow base e size v n xs) (hg : w.grownBy w' row) (hne : ∀ g, v.ownBlock = some g → row ≠ some g) : w'.ownsRow base e size v n xs := by
  obtain ⟨h1, h2⟩ := h
  refine ⟨h1, h2.imp_right ?_⟩
  rintro ⟨g, cap, cur, rfl, hgb, hh, h3⟩
  exact ⟨g, cap, cur, rfl, hgb, (hg.block g (Array.getElem?_eq_some_iff.1 hh).1 (fun e => hne g rfl e.symm)).trans hh, h3⟩

/-- 'append(s, x...)': s a row of the call's own, x whatever; it may grow -/
theorem app_row {P : Program} {w : World} {ops : Array Oper} {rest : List Oper} {o : Oper} {a : Act} {Q : Exit → Act → World → Prop} (hgd : o.guard = none)
    (s x : Operand) (t : TypeId) (ho : o.op = .call { callee := .builtin .append, args := #[s, x], argTypes := #[t, t] }) (base : Nat) (e : TypeId) (i : TypeInfo)
    (z : Value) (size bytes : Nat) (ht : P.underlying t = some (.slice e)) (hi : P.info? e = some i) (hz : i.zero = some z) (hsize : i.size = size) (hby : i.bytes = bytes)
    (hzs : z.cells.size = size) (hsz : 0 < size) (v : Value) (n : Nat) (xs : List Value) (hs : a.eval s = v) (hown : w.ownsRow base e size v n xs) (ao : Option Addr) (m c : Nat) (news : List Value)
    (hx : a.eval x = .slice ao m c) (hnone : ao = none → m = 0 ∧ c = 0) (hl : news.length = m * size) (hnews : ∀ ad, ao = some ad → ∀ (j : Nat) (u : Value), news[j]? = some u → w.cell? (ad.add j) = some u)
    (h1 : ∀ u, u ∈ news → u.oneCell' = true) (h63 : n + m ≤ maxLen) (hbytes : (n + m) * bytes ≤ 140737488355328) (hbase : base ≤ w.heap.size)
    (h : ∀ (v' : Value) (w' : World), w'.ownsRow base e size v' (n + m) (xs ++ news) → Below base w w' → w.grownBy w' v.ownBlock → wpList P ops Q rest (a.put o.dst v') w') : wpList P ops Q (o :: rest) a w := by
  cases ao with
  | none =>
    obtain ⟨rfl, rfl⟩ := hnone rfl
    have hn : news = [] := List.eq_nil_of_length_eq_zero (by simpa using hl)
    subst hn
    refine wpList_append_own_none hgd s x t ho base e i size ht hi _ n xs hs hown hx ?_
    exact h v w (by simpa using hown) (Below.refl _ _) (World.grownBy.refl _ _)
  | some ad =>
    refine wpList_append_own w hgd s x t ho base e i z size bytes ht hi hz hsize hby hzs hsz v n xs hs hown ad m c news hx hl (hnews ad rfl) h1 h63 hbytes hbase ?_
    intro v' w' hown' hgrow _
    exact h v' w' hown' ((Below.refl _ _).grown hgrow hbase (fun k hk => (hown.lt k hk).1)) hgrow
/-- the same, of integers -/
theorem app_ints {P : Program} {w : World} {ops : Array Oper} {rest : List Oper} {o : Oper} {a : Act} {Q : Exit → Act → World → Prop} (hgd : o.guard = none)
    (s x : Operand) (t : TypeId) (ho : o.op = .call { callee := .builtin .append, args := #[s, x], argTypes := #[t, t] }) (base : Nat) (e : TypeId) (k : IntKind) (bytes : Nat) (ht : P.underlying t = some (.slice e))
    (hi : (P.info? e).map (fun i => (i.zero, i.size, i.bytes)) = some (some (.int k 0), 1, bytes)) (v : Value) (n : Nat) (xs : List Int) (hs : a.eval s = v) (hown : w.ownsRow base e 1 v n (xs.map (Value.int k))) (x' : Value) (ys : List Int)
    (hx : a.eval x = x') (hsrc : Sl k w x' ys) (hlen : (xs.length + ys.length) * bytes ≤ 140737488355328) (hm : xs.length + ys.length ≤ maxLen) (hbase : base ≤ w.heap.size)
    (h : ∀ (v' : Value) (w' : World), w'.ownsRow base e 1 v' (xs.length + ys.length) ((xs ++ ys).map (Value.int k)) → Below base w w' → w.grownBy w' v.ownBlock → wpList P ops Q rest (a.put o.dst v') w') : wpList P ops Q (o :: rest) a w := by
  obtain ⟨i0, hi0, hz0, hz1, hz2⟩ := info_parts hi
  have hn : n = xs.length := by have := hown.1; simpa using this.symm
  subst hn
  obtain ⟨ao, c, e', _⟩ := id hsrc
  subst e'
  refine app_row hgd s x t ho base e i0 (.int k 0) 1 bytes ht hi0 hz0 hz1 hz2 rfl (by decide) v xs.length (xs.map (Value.int k)) hs hown ao ys.length c (ys.map (Value.int k)) hx ?_ (by simp) ?_ (ints_oneCell _ _) hm hlen hbase ?_
  · intro h0; subst h0; exact hsrc.bare
  · intro ad h0; subst h0
    by_cases h0 : 0 < ys.length
    · obtain ⟨ad', e', hc⟩ := hsrc.cells h0
      cases e'
      exact hc
    · intro j u hj
      obtain rfl : ys = [] := List.eq_nil_of_length_eq_zero (by omega)
      simp at hj
  · intro v' w' hown' hb hg
    exact h v' w' (by simpa using hown') hb hg

/-- an owned row of integers reads as it is -/
theorem Sl.of_own {k : IntKind} {w : World} {base n : Nat} {e : TypeId} {v : Value} {zs : List Int} (h : w.ownsRow base e 1 v n (zs.map (Value.int k))) (hf : Fit k zs) (hm : zs.length ≤ maxLen) : Sl k w v zs := by
  have hn : n = zs.length := by have := h.1; simpa using this.symm
  subst hn
  exact Sl.owned h hf hm
theorem Fit.append {k : IntKind} {xs ys : List Int} (hx : Fit k xs) (hy : Fit k ys) : Fit k (xs ++ ys) := fun n hn => by
  rcases List.mem_append.1 hn with h | h
  · exact hx n h
  · exact hy n h

/-- a list of numbers that was just laid, each of which fits -/
theorem Sl.lit' {k : IntKind} {w : World} {g n : Nat} {e : TypeId} {cs : Array Value} (zs : List Int) (hg : g = w.heap.size) (hc : cs = (zs.map (Value.int k)).toArray) (hn : n = zs.length) (hf : Fit k zs) (hm : zs.length ≤ maxLen) :
    Sl k (w.alloc (.cells cs e)) (.slice (some ⟨g, 0, none⟩) n n) zs := by
  subst hg; subst hc; subst hn
  exact Sl.block (e := e) (heap_alloc_new w _) hf hm
/-- a list of numbers that was just laid is the call's own -/
theorem owned_lit {k : IntKind} {w : World} {base g n : Nat} {e : TypeId} {cs : Array Value} (zs : List Int) (hb : base ≤ w.heap.size) (hg : g = w.heap.size) (hc : cs = (zs.map (Value.int k)).toArray) (hn : n = zs.length) (hm : zs.length ≤ maxLen) :
    (w.alloc (.cells cs e)).ownsRow base e 1 (.slice (some ⟨g, 0, none⟩) n n) n (zs.map (Value.int k)) := by
  subst hg; subst hc; subst hn
  exact ⟨by simp, .inr ⟨w.heap.size, zs.length, _, rfl, hb, heap_alloc_new w _, Nat.le_refl _, hm, by simp, List.take_of_length_le (by simp)⟩⟩
theorem fit_bytes2 {a b : Int} (h1 : 0 ≤ a) (h2 : a ≤ 255) (h3 : 0 ≤ b) (h4 : b ≤ 255) : Fit .u8 [a, b] := by
  intro n hn
  simp only [List.mem_cons, List.not_mem_nil, or_false] at hn
  rcases hn with rfl | rfl
  · exact WalkArith.wf_u8 (by omega)
  · exact WalkArith.wf_u8 (by omega)

/-- three results, the first of which lies in a block of its own -/
theorem results_row_tmp2 {P : Program} {fn : Func} {p u v : Tmp} {ty : TypeId} (h : fn.results = #[.cell p ty, .tmp u, .tmp v]) (tmps : Array Value) (w : World) (g : Nat) (t : TypeId) (cs : Array Value) (fr : Nat × Nat) (d : TypeDesc)
    (hp : tmps.getD p undef = .pointer (some ⟨g, 0, none⟩)) (hg : w.heap[g]? = some (.cells cs t fr))
    (hu : P.underlying ty = some d) (hd : (match d with | .struct _ | .array _ _ => true | _ => false) = true) (hi : (P.info? ty).map (·.size) = some cs.size) :
    (results fn tmps).run P w = .ok (.tuple #[.agg cs, tmps.getD u undef, tmps.getD v undef]) w := by
  have hp' : tmps[p]?.getD undef = .pointer (some ⟨g, 0, none⟩) := by simpa using hp
  simp [results, h, hp', asAddr, run_loadVar_row w g t ty cs fr d hg hu hd hi, Result.andThen]

/-- 'make([]T, n, n)' as an equation, for regions that draw their order: the world behind it under a name -/
theorem make_named {P : Program} (t e : TypeId) (z : Value) (size bytes : Nat) (ht : P.underlying t = some (.slice e)) (hi : (P.info? e).map (fun i => (i.zero, i.size, i.bytes)) = some (some z, size, bytes)) (n : Int) (N : Nat) (hn : n = (N : Int))
    (hb : bytes * N ≤ 281474976710656) (hm : N ≤ maxLen) :
    ∃ mk : World → World, (∀ (kl kc : IntKind) (w : World), (Instr.makeSlice t (.int kl n) (.int kc n)).run P w = .ok (.slice (some ⟨w.heap.size, 0, none⟩) N N) (mk w)) ∧
      (∀ w : World, (mk w).ownsRow w.heap.size e size (.slice (some ⟨w.heap.size, 0, none⟩) N N) N (madeCells z.cells (N * size)).toList) ∧ ∀ w : World, w.grownBy (mk w) none := by
  obtain ⟨i0, hi0, hz0, hz1, hz2⟩ := info_parts hi
  subst hn
  have h := fun (w : World) => run_make_full (P := P) w w.heap.size t e i0 z size ht hi0 hz0 hz1 .i64 .i64 N (by rw [hz2]; exact hb) hm (Nat.le_refl _)
  refine ⟨fun w => Classical.choose (h w), fun kl kc w => ?_, fun w => (Classical.choose_spec (h w)).2.1, fun w => (Classical.choose_spec (h w)).2.2⟩
  have h1 := (Classical.choose_spec (h w)).1
  rw [← h1]
  rfl

/-- the cells of a block of which nothing is frozen -/
theorem blk_cell {W : World} {B j : Nat} {t : TypeId} {cs : Array Value} {v : Value} (h : W.heap[B]? = some (.cells cs t (0, 0))) (hj : cs[j]? = some v) : W.cell? ⟨B, j, none⟩ = some v := by simp [World.cell?, h, hj]
theorem blk_free {W : World} {B j : Nat} {t : TypeId} {cs : Array Value} (h : W.heap[B]? = some (.cells cs t (0, 0))) : W.frozen? ⟨B, j, none⟩ = false := by simp [World.frozen?, h]

theorem setRow_grown (w : World) (g : Nat) (cs : Array Value) : w.grownBy (w.setRow g cs) (some g) := by
  refine ⟨rfl, rfl, rfl, by simp [World.setRow], fun k _ hne => ?_⟩
  have : k ≠ g := fun e => hne (by rw [e])
  simp [World.setRow, Array.getElem?_modify, Ne.symm this]
/-- 'copy(d, s)' over the whole of a row that the call itself made -/
theorem copy_ints {P : Program} {w : World} {ops : Array Oper} {rest : List Oper} {o : Oper} {a : Act} {Q : Exit → Act → World → Prop} (hgd : o.guard = none)
    (d s : Operand) (t : TypeId) (ho : o.op = .call { callee := .builtin .copy, args := #[d, s], argTypes := #[t, t] }) (e : TypeId) (k : IntKind) (hu : P.underlying t = some (.slice e)) (hsz : (P.info? e).map (·.size) = some 1)
    (base g N : Nat) (xs : List Int) (hd : a.eval d = .slice (some ⟨g, 0, none⟩) N N) (hown : w.ownsRow base e 1 (.slice (some ⟨g, 0, none⟩) N N) N (xs.map (Value.int k))) (sv : Value) (ys : List Int) (hs : a.eval s = sv) (hsrc : Sl k w sv ys) (hl : ys.length = N)
    (h : ∀ w', w'.ownsRow base e 1 (.slice (some ⟨g, 0, none⟩) N N) N (ys.map (Value.int k)) → w.grownBy w' (some g) → Below base w w' → wpList P ops Q rest (a.put o.dst (goInt N)) w') : wpList P ops Q (o :: rest) a w := by
  subst hl
  obtain ⟨sp, c, e', _⟩ := id hsrc
  subst e'
  by_cases h0 : ys.length = 0
  · refine wpList_copy_nothing hgd d s t t ho e hu hsz _ sp _ _ ys.length c hd hs (by simp [h0]) ?_
    have hx : xs = [] := List.eq_nil_of_length_eq_zero (by have := hown.1; simp at this; omega)
    have hy : ys = [] := List.eq_nil_of_length_eq_zero h0
    have := h w (by rw [hx] at hown; rw [hy] at hown ⊢; exact hown) (World.grownBy.refl _ _) (Below.refl _ _)
    rw [h0] at this
    exact this
  · obtain ⟨ad, rfl, hsc⟩ := hsrc.cells (by omega)
    have hg := own_block hown
    have hlx : xs.length = ys.length := by have := hown.1; simpa using this
    have hb := (hown.lt g rfl).1
    refine wpList_copy_own hgd d s t t ho e hu hsz g 0 _ _ ad _ c hd hs _ e hg (ys.map (Value.int k)) (by simp) hsc (by simp [hlx]) (ints_oneCell _ _) ?_
    have hcs : (List.take 0 (xs.map (Value.int k)).toArray.toList ++ (ys.map (Value.int k) ++ List.drop (0 + (ys.map (Value.int k)).length) (xs.map (Value.int k)).toArray.toList)).toArray = (ys.map (Value.int k)).toArray := by simp [hlx]
    have hr := setRow_heap w g _ (ys.map (Value.int k)).toArray e (0, 0) hg
    have := h (w.setRow g (ys.map (Value.int k)).toArray) ⟨by simp, .inr ⟨g, ys.length, _, rfl, hb, hr, Nat.le_refl _, hsrc.len, by simp, List.take_of_length_le (by simp)⟩⟩ (setRow_grown _ _ _) (below_setRow (Below.refl _ _) hb _)
    rw [hcs]
    simpa using this

/-- a block of four cells, each of which is written -/
theorem set4 {W : World} {B : Nat} {t : TypeId} {x0 x1 x2 x3 : Value} (h : W.heap[B]? = some (.cells #[x0, x1, x2, x3] t (0, 0))) (y0 y1 y2 y3 : Value) :
    ((((W.setCell ⟨B, 0, none⟩ y0).setCell ⟨B, 1, none⟩ y1).setCell ⟨B, 2, none⟩ y2).setCell ⟨B, 3, none⟩ y3).heap[B]? = some (.cells #[y0, y1, y2, y3] t (0, 0)) :=
  heap_setCell_same _ B 3 _ t y3 (heap_setCell_same _ B 2 _ t y2 (heap_setCell_same _ B 1 _ t y1 (heap_setCell_same W B 0 _ t y0 h)))

theorem set4_grown (W : World) (B : Nat) (y0 y1 y2 y3 : Value) : W.grownBy ((((W.setCell ⟨B, 0, none⟩ y0).setCell ⟨B, 1, none⟩ y1).setCell ⟨B, 2, none⟩ y2).setCell ⟨B, 3, none⟩ y3) (some B) := by
  refine ⟨rfl, rfl, rfl, by simp, fun k _ hne => ?_⟩
  have : k ≠ B := fun e => hne (by rw [e])
  rw [Below.heap_setCell _ _ _ _ this, Below.heap_setCell _ _ _ _ this, Below.heap_setCell _ _ _ _ this, Below.heap_setCell _ _ _ _ this]

end Go.Proofs.YtenapfpkegoonaaDoor

/-
  A region that draws its order and makes memory: each operation of its head is shown by itself, from what the operations that it waits for have left; its tail is walked in order. No program is named here.
-/
namespace Go.Proofs.YtenapfpkegoonaaDoor
open Go.RowKit

/-- what an operation yields, and the world behind it -/
def gives (P : Program) (o : Oper) (ρ : Operand → Value) (w : World) (R : Value → World → Prop) : Prop :=
  match (execOp ρ o).run P w with
  | .ok (.value v) w' => R v w'
  | .ok (.enter f args) w' => Calls P f args w' (fun e w'' => ∃ v, e = .returned v ∧ R v w'')
  | _ => False
theorem wp_of_gives {P : Program} {o : Oper} {a : Act} {w : World} {R : Value → World → Prop} {K : Act → World → Prop} {Q : Exit → Act → World → Prop}
    (h : gives P o a.eval w R) (hK : ∀ v w', R v w' → K (a.put o.dst v) w') : o.wp P a w K Q := by
  unfold gives at h
  unfold Oper.wp
  generalize (execOp a.eval o).run P w = r at *
  cases r with
  | ok n w' =>
    cases n <;> simp only [Oper.upon] at h ⊢
    case value v => exact hK _ _ h
    case enter f args => exact h.mono fun e w'' ⟨v, he, hR⟩ => by subst he; exact hK _ _ hR
  | halt x w' => simp at h

/-- the frame behind the head: each destination holds its value -/
def putAll (D : List Tmp) (x : Nat → Value) : Nat → Act → Act
  | 0, a => a
  | k + 1, a => (putAll D x k a).put (some (D.getD k 0)) (x k)
theorem putAll_size (D : List Tmp) (x : Nat → Value) (k : Nat) (a : Act) : (putAll D x k a).tmps.size = a.tmps.size := by
  induction k with
  | zero => rfl
  | succ k ih => simp [putAll, Act.put, ih]
theorem putAll_defers (D : List Tmp) (x : Nat → Value) (k : Nat) (a : Act) : (putAll D x k a).defers = a.defers := by
  induction k with
  | zero => rfl
  | succ k ih => simp [putAll, Act.put, ih]
theorem putAll_other (D : List Tmp) (x : Nat → Value) (a : Act) (t : Tmp) : ∀ k, (∀ i, i < k → D.getD i 0 ≠ t) → (putAll D x k a).tmps[t]? = a.tmps[t]? := by
  intro k
  induction k with
  | zero => intro _; rfl
  | succ k ih =>
    intro h
    have h1 := h k (by omega)
    simp only [putAll, Act.put]
    rw [Array.getElem?_setIfInBounds_ne h1]
    exact ih fun i hi => h i (by omega)
theorem putAll_at (D : List Tmp) (x : Nat → Value) (a : Act) : ∀ k i, i < k → (∀ i j, i < k → j < k → D.getD i 0 = D.getD j 0 → i = j) → D.getD i 0 < a.tmps.size → (putAll D x k a).tmps[D.getD i 0]? = some (x i) := by
  intro k
  induction k with
  | zero => intro i hi; omega
  | succ k ih =>
    intro i hi hd hb
    simp only [putAll, Act.put]
    by_cases hik : i = k
    · subst hik
      rw [Array.getElem?_setIfInBounds_self_of_lt]
      rw [putAll_size]; exact hb
    · rw [Array.getElem?_setIfInBounds_ne (fun e => hik (hd i k (by omega) (by omega) e.symm))]
      exact ih i (by omega) (fun i j h1 h2 => hd i j (by omega) (by omega)) hb

/-- what is asked of the region's shape: the kernel reckons it -/
def sinkE (ops : Array Oper) (n : Nat) (E L : List Nat) : Bool := (List.range n).all fun i => E.contains i || L.contains i || (List.range (n + 1)).any fun j => decide (i < j) && !L.contains j && Region.waitsFor .any ops j i
/-- an operation that may be late: every other one waits for it, or it for that, or they are apart -/
def lateB (l : List Oper) (L : List Nat) : Bool := L.all fun i => match l[i]? with
  | some oi => (List.range l.length).all fun j => j == i || Region.waitsFor .any l.toArray j i || Region.waitsFor .any l.toArray i j || (match l[j]? with | some oj => oi.apart l.toArray oj | none => true)
  | none => false
def tableB (l : List Oper) (n sz : Nat) (D : List Tmp) (js : List (List (Nat × Tmp))) (E L : List Nat) : Bool :=
  decide (n ≤ l.length) && decide (D.length = n) && decide (D.Nodup) && D.all (fun d => decide (d < sz)) &&
  (List.range n).all (fun i => match l[i]? with
    | some o => o.guard.isNone && o.dst == some (D.getD i 0) && o.after.all (fun e => !Region.binds .any e || decide (e.on < i)) && (js.getD i []).all (fun p => decide (p.1 < n) && (E.contains p.1 || Region.waitsFor .any l.toArray i p.1) && p.2 == D.getD p.1 0)
    | none => false) &&
  (decide (n = l.length) || sinkE l.toArray n E L && Region.chainB .any l.toArray n) && Region.noSelect l.toArray && lateB l L &&
  Region.seqB .any l.toArray (l.length - n) n ((List.range l.length).map (fun i => decide (i < n))).toArray

/-- one operation of the head, by itself -/
def opOk (P : Program) (D : List Tmp) (a0 : Act) (W0 : World) (Ψ : Nat → Value → World → Prop) (i : Nat) (js : List (Nat × Tmp)) (o : Oper) : Prop :=
  ∀ (ρ : Operand → Value) (w : World), (∀ v, ρ (.const v) = v) → (∀ f, ρ (.func f) = .func (.func f) #[] #[]) → (∀ t, t ∉ D → ρ (.tmp t) = a0.eval (.tmp t)) → Below W0.heap.size W0 w → (∀ p ∈ js, Ψ p.1 (ρ (.tmp p.2)) w) →
    gives P o ρ w fun v w' => Ψ i v w' ∧ Below w.heap.size w w'
/-- one that may be late: it yields in whatever world -/
def lateOk (P : Program) (D : List Tmp) (a0 : Act) (W0 : World) (Ψ : Nat → Value → World → Prop) (i : Nat) (js : List (Nat × Tmp)) (o : Oper) : Prop :=
  ∀ (ρ : Operand → Value) (w : World), (∀ v, ρ (.const v) = v) → (∀ t, t ∉ D → ρ (.tmp t) = a0.eval (.tmp t)) → Below W0.heap.size W0 w → (∀ p ∈ js, Ψ p.1 (ρ (.tmp p.2)) w) →
    ∃ v, (∀ w', (execOp ρ o).run P w' = .ok (.value v) w') ∧ Ψ i v w
theorem lateOk.opOk {P : Program} {D : List Tmp} {a0 : Act} {W0 : World} {Ψ : Nat → Value → World → Prop} {i : Nat} {js : List (Nat × Tmp)} {o : Oper} (h : lateOk P D a0 W0 Ψ i js o) : opOk P D a0 W0 Ψ i js o := by
  intro ρ w hc _ ho hB hj
  obtain ⟨v, hr, hv⟩ := h ρ w hc ho hB hj
  unfold gives
  rw [hr w]
  exact ⟨hv, Below.refl _ _⟩
def opsOk (P : Program) (D : List Tmp) (a0 : Act) (W0 : World) (Ψ : Nat → Value → World → Prop) : Nat → List (List (Nat × Tmp)) → List Oper → Prop
  | i, js :: jss, o :: l => opOk P D a0 W0 Ψ i js o ∧ opsOk P D a0 W0 Ψ (i + 1) jss l
  | i, [], o :: l => opOk P D a0 W0 Ψ i [] o ∧ opsOk P D a0 W0 Ψ (i + 1) [] l
  | _, _, [] => True
theorem opsOk_get {P : Program} {D : List Tmp} {a0 : Act} {W0 : World} {Ψ : Nat → Value → World → Prop} : ∀ (l : List Oper) (k : Nat) (jss : List (List (Nat × Tmp))), opsOk P D a0 W0 Ψ k jss l → ∀ i o, l[i]? = some o → opOk P D a0 W0 Ψ (k + i) (jss.getD i []) o
  | [], _, _, _, i, o, h => by simp at h
  | o :: l, k, [], h, 0, _, e => by simp at e; subst e; simpa using h.1
  | o :: l, k, js :: jss, h, 0, _, e => by simp at e; subst e; simpa using h.1
  | o :: l, k, [], h, i + 1, o', e => by
    have := opsOk_get l (k + 1) [] h.2 i o' (by simpa using e)
    simpa [Nat.add_assoc, Nat.add_comm 1 i] using this
  | o :: l, k, js :: jss, h, i + 1, o', e => by
    have := opsOk_get l (k + 1) jss h.2 i o' (by simpa using e)
    simpa [Nat.add_assoc, Nat.add_comm 1 i] using this

theorem countP_flip (p q : Nat → Bool) (i : Nat) (hp : p i = true) (hq : q i = false) (ho : ∀ j, j ≠ i → q j = p j) : ∀ r : List Nat, r.Nodup → i ∈ r → r.countP p = r.countP q + 1
  | [], _, h => by simp at h
  | j :: r, hn, h => by
    have hn' := List.nodup_cons.1 hn
    by_cases hj : j = i
    · subst hj
      have : r.countP p = r.countP q := List.countP_congr fun k hk => by rw [ho k (fun e => hn'.1 (e ▸ hk))]
      rw [List.countP_cons, List.countP_cons, this, hp, hq]
      simp
    · have hi : i ∈ r := by
        rcases List.mem_cons.1 h with h | h
        · exact absurd h.symm hj
        · exact h
      rw [List.countP_cons, List.countP_cons, countP_flip p q i hp hq ho r hn'.2 hi, ho j hj]
      omega

theorem least_one (p : Nat → Prop) : ∀ i, p i → ∃ k, p k ∧ ∀ j, j < k → ¬ p j := fun i => by
  induction i using Nat.strongRecOn with
  | _ i ih =>
    intro h
    by_cases h2 : ∃ j, j < i ∧ p j
    · obtain ⟨j, hj, hp⟩ := h2
      exact ih j hj hp
    · exact ⟨i, h, fun j hj hp => h2 ⟨j, hj, hp⟩⟩
theorem getD_of_true {listed : Array Bool} {i : Nat} (h : listed.getD i true = true) (hi : i < listed.size) : listed.getD i false = true := by
  simp [hi] at h ⊢; exact h
section
variable {P : Program} {l : List Oper} {n : Nat} {D : List Tmp} {js : List (List (Nat × Tmp))} {E L : List Nat} {a0 : Act} {W0 : World} {Ψ : Nat → Value → World → Prop} {Q : Exit → Act → World → Prop}
structure Shape (l : List Oper) (n sz : Nat) (D : List Tmp) (js : List (List (Nat × Tmp))) (E L : List Nat) : Prop where
  le : n ≤ l.length
  len : D.length = n
  inj : ∀ i j, i < n → j < n → D.getD i 0 = D.getD j 0 → i = j
  lt : ∀ i, i < n → D.getD i 0 < sz
  op : ∀ i, i < n → ∃ o, l[i]? = some o ∧ o.guard = none ∧ o.dst = some (D.getD i 0) ∧ (∀ e ∈ o.after, Region.binds .any e = true → e.on < i) ∧
    ∀ p ∈ js.getD i [], p.1 < n ∧ (p.1 ∈ E ∨ Region.waitsFor .any l.toArray i p.1 = true) ∧ p.2 = D.getD p.1 0
  sel : Region.noSelect l.toArray = true
  late : ∀ i ∈ L, ∀ oi, l[i]? = some oi → ∀ j oj, l[j]? = some oj → j ≠ i → Region.waitsFor .any l.toArray j i = true ∨ Region.waitsFor .any l.toArray i j = true ∨ oi.apart l.toArray oj = true
  tail : n = l.length ∨ (sinkE l.toArray n E L = true ∧ Region.chainB .any l.toArray n = true)
  seq : Region.seqB .any l.toArray (l.length - n) n ((List.range l.length).map (fun i => decide (i < n))).toArray = true
theorem tableB_spec {sz : Nat} (h : tableB l n sz D js E L = true) : Shape l n sz D js E L := by
  simp only [tableB, Bool.and_eq_true, decide_eq_true_eq, List.all_eq_true, Bool.or_eq_true] at h
  obtain ⟨⟨⟨⟨⟨⟨⟨⟨h1, h2⟩, h3⟩, h4⟩, h5⟩, h6⟩, h8⟩, h9⟩, h7⟩ := h
  refine ⟨h1, h2, ?_, ?_, ?_, h8, ?_, h6, h7⟩
  rotate_left 3
  · intro i hi oi ho j oj hj hne
    have := List.all_eq_true.1 h9 i hi
    rw [ho] at this
    have := List.all_eq_true.1 this j (List.mem_range.2 (List.getElem?_eq_some_iff.1 hj).1)
    rw [hj] at this
    simp only [Bool.or_eq_true, beq_iff_eq] at this
    rcases this with ((h | h) | h) | h
    · exact absurd h hne
    · exact .inl h
    · exact .inr (.inl h)
    · exact .inr (.inr h)
  · intro i j hi hj e
    rw [List.getD_eq_getElem?_getD, List.getD_eq_getElem?_getD, List.getElem?_eq_getElem (by omega), List.getElem?_eq_getElem (by omega), Option.getD_some, Option.getD_some] at e
    have hp := List.pairwise_iff_getElem.1 h3
    rcases Nat.lt_trichotomy i j with h | h | h
    · exact absurd e (hp i j (by omega) (by omega) h)
    · exact h
    · exact absurd e.symm (hp j i (by omega) (by omega) h)
  · intro i hi
    refine h4 _ ?_
    rw [List.getD_eq_getElem?_getD, List.getElem?_eq_getElem (by omega), Option.getD_some]
    exact List.getElem_mem _
  · intro i hi
    have := h5 i (List.mem_range.2 hi)
    split at this
    · rename_i o ho
      simp only [Bool.and_eq_true, Option.isNone_iff_eq_none, beq_iff_eq, Array.all_eq_true_iff_forall_mem, List.all_eq_true, decide_eq_true_eq, Bool.or_eq_true, Bool.not_eq_true'] at this
      obtain ⟨⟨⟨g1, g2⟩, g3⟩, g4⟩ := this
      refine ⟨o, ho, g1, g2, fun e he hb => (g3 e he).resolve_left (by simp [hb]), fun p hp => ?_⟩
      have := g4 p hp
      exact ⟨this.1.1, this.1.2.imp_left (by simp), this.2⟩
    · cases this

/-- where the head stands, in whatever order it has come so far -/
structure Mid (l : List Oper) (n : Nat) (D : List Tmp) (E : List Nat) (a0 : Act) (W0 : World) (Ψ : Nat → Value → World → Prop) (listed : Array Bool) (a : Act) (w : World) : Prop where
  head : HeadInv .any l.toArray n listed
  below : Below W0.heap.size W0 w
  size : a.tmps.size = a0.tmps.size
  defers : a.defers = a0.defers
  other : ∀ t, t ∉ D → a.tmps[t]? = a0.tmps[t]?
  early : ∀ i ∈ E, listed.getD i false = true
  holds : ∀ i, i < n → listed.getD i false = true → Ψ i (a.eval (.tmp (D.getD i 0))) w
/-- nothing of the tail comes up while something of the head is left -/
theorem head_first (hs : sinkE l.toArray n E L = true) (hc : Region.chainB .any l.toArray n = true) {listed : Array Bool} (inv : HeadInv .any l.toArray n listed) (he : ∀ i ∈ E, listed.getD i false = true) :
    ∀ (d i : Nat), n - i = d → i < n → i ∉ L → listed.getD i true = false → ∀ t, n ≤ t → t ∉ Region.ready .any l.toArray listed := by
  intro d
  induction d using Nat.strongRecOn with
  | _ d ih =>
    intro i hd hi hiL hun t ht hr
    obtain ⟨_, ot, hot, hall⟩ := mem_ready.1 hr
    have htlt : t < l.toArray.size := (Array.getElem?_eq_some_iff.1 hot).1
    by_cases htn : t = n
    · subst htn
      have h1 := List.all_eq_true.1 hs i (List.mem_range.2 hi)
      rw [Bool.or_eq_true, Bool.or_eq_true] at h1
      rcases h1 with (h1 | h1) | h1
      · have := he i (by simpa using h1)
        rw [getD_both hun] at this
        cases this
      · exact absurd (by simpa using h1) hiL
      · obtain ⟨j, hj, hj2⟩ := List.any_eq_true.1 h1
        simp only [Bool.and_eq_true, decide_eq_true_eq, Bool.not_eq_true'] at hj2
        have hjL : j ∉ L := by have := hj2.1.2; simpa using this
        obtain ⟨oj, hoj, e, hej, hb, hon⟩ := Region.waitsFor_spec hj2.2
        have hjle : j ≤ t := by have := List.mem_range.1 hj; omega
        by_cases hjt : j = t
        · subst hjt
          have : oj = ot := Option.some.inj (hoj.symm.trans hot)
          subst this
          have := hall e hej hb
          rw [hon, getD_both hun] at this
          cases this
        · have hjl : listed.getD j true = true := by
            by_cases h : listed.getD j true = true
            · exact h
            · exact absurd hr (ih (t - j) (by omega) j rfl (by omega) hjL (by simpa using h) t (Nat.le_refl _))
          have hjs : j < listed.size := by rw [inv.size]; omega
          have h2 := inv.closed j oj hoj (getD_of_true hjl hjs) e hej hb
          rw [hon, getD_both hun] at h2
          cases h2
    · have h1 := List.all_eq_true.1 hc t (List.mem_range.2 htlt)
      simp only [Bool.or_eq_true, decide_eq_true_eq] at h1
      rcases h1 with h1 | h1
      · omega
      · obtain ⟨oj, hoj, e, hej, hb, hon⟩ := Region.waitsFor_spec h1
        have : oj = ot := Option.some.inj (hoj.symm.trans hot)
        subst this
        have h2 := hall e hej hb
        have h3 := inv.tail (t - 1) (by omega) (by omega)
        rw [hon, getD_both h3] at h2
        cases h2

theorem wanted_none {o : Oper} (h : o.guard = none) (y : Nat → Option Bool) : Region.wanted o y = true := by simp [Region.wanted, h]

theorem Mid.facts {sz : Nat} {listed : Array Bool} {a : Act} {w : World} {i : Nat} (I : Mid l n D E a0 W0 Ψ listed a w) (S : Shape l n sz D js E L) (hi : i ∈ Region.ready .any l.toArray listed) (hin : i < n) : ∀ p ∈ js.getD i [], Ψ p.1 (a.eval (.tmp p.2)) w := by
  obtain ⟨o, ho, _, _, _, hjs⟩ := S.op i hin
  obtain ⟨_, o', ho', hready⟩ := mem_ready.1 hi
  have ho2 : l.toArray[i]? = some o := by simpa using ho
  obtain rfl : o' = o := Option.some.inj (ho'.symm.trans ho2)
  intro p hp
  obtain ⟨h1, h2, h3⟩ := hjs p hp
  rw [h3]
  refine I.holds p.1 h1 ?_
  rcases h2 with h2 | h2
  · exact I.early _ h2
  obtain ⟨oj, hoj, e, he, hb, hon⟩ := Region.waitsFor_spec h2
  have : oj = o' := Option.some.inj (hoj.symm.trans ho2)
  subst this
  rw [← hon]
  exact hready e he hb
/-- one more has come up -/
theorem Mid.put {sz : Nat} {listed : Array Bool} {a : Act} {w : World} {i : Nat} (I : Mid l n D E a0 W0 Ψ listed a w) (S : Shape l n sz D js E L) (hsz : a0.tmps.size = sz) (hΨ : ∀ i v w w', Ψ i v w → Below w.heap.size w w' → Ψ i v w')
    (hi : i ∈ Region.ready .any l.toArray listed) (hin : i < n) (v : Value) (w' : World) (hv : Ψ i v w') (hb : Below w.heap.size w w') :
    (List.range n).countP (fun j => !listed.getD j true) = (List.range n).countP (fun j => !(listed.setIfInBounds i true).getD j true) + 1 ∧ Mid l n D E a0 W0 Ψ (listed.setIfInBounds i true) (a.put (some (D.getD i 0)) v) w' := by
  have hls : listed.size = l.length := by simpa using I.head.size
  have hle := S.le
  have hiun := (mem_ready.1 hi).1
  refine ⟨?_, I.head.set hi hin, I.below.trans (hb.mono I.below.size), ?_, ?_, ?_, fun j hj => getD_set_true (I.early j hj), ?_⟩
  · exact countP_flip (fun j => !listed.getD j true) (fun j => !(listed.setIfInBounds i true).getD j true) i (by simp [hiun]) (by simp [show i < listed.size by rw [hls]; omega]) (fun j hj => by rw [getD_set_ne true (Ne.symm hj)]) (List.range n) List.nodup_range (List.mem_range.2 hin)
  · simp [Act.put, I.size]
  · simp [Act.put, I.defers]
  · intro t ht
    simp only [Act.put]
    rw [Array.getElem?_setIfInBounds_ne]
    · exact I.other t ht
    · intro e
      refine ht ?_
      rw [← e, List.getD_eq_getElem?_getD, List.getElem?_eq_getElem (by rw [S.len]; exact hin), Option.getD_some]
      exact List.getElem_mem _
  · intro j hj hlj
    by_cases hji : j = i
    · subst hji
      have : (a.put (some (D.getD j 0)) v).eval (.tmp (D.getD j 0)) = v := by
        simp only [Act.eval, Act.put]
        rw [Array.getD_eq_getD_getElem?, Array.getElem?_setIfInBounds_self_of_lt (by rw [I.size, hsz]; exact S.lt j hin), Option.getD_some]
      rw [this]
      exact hv
    · rw [getD_set_ne false (Ne.symm hji)] at hlj
      have : (a.put (some (D.getD i 0)) v).eval (.tmp (D.getD j 0)) = a.eval (.tmp (D.getD j 0)) := by
        refine Act.eval_put fun d hd' e => ?_
        simp only [Option.some.injEq] at hd'
        subst hd'
        simp only [Operand.tmp.injEq] at e
        exact hji (S.inj j i hj hin e)
      rw [this]
      exact hΨ _ _ _ _ (I.holds j hj hlj) hb

theorem mid_any {sz : Nat} (S : Shape l n sz D js E L) (hsz : a0.tmps.size = sz) (hΨ : ∀ i v w w', Ψ i v w → Below w.heap.size w w' → Ψ i v w') (hop : opsOk P D a0 W0 Ψ 0 js (l.take n)) (hQ : ∀ i ∈ L, ∀ c (a : Act) d v w, Q (.panic c) (a.put d v) w → Q (.panic c) a w) (hlate : ∀ i ∈ L, i < n → ∀ o, l[i]? = some o → lateOk P D a0 W0 Ψ i (js.getD i []) o)
    (hend : ∀ (x : Nat → Value) (w : World), Below W0.heap.size W0 w → (∀ i, i < n → Ψ i (x i) w) → wpList P l.toArray Q (l.drop n) (putAll D x n a0) w) :
    ∀ (m : Nat) (listed : Array Bool) (a : Act) (w : World), (List.range n).countP (fun i => !listed.getD i true) = m → Mid l n D E a0 W0 Ψ listed a w → wpAny P .any l.toArray Q (m + (l.length - n)) listed a w := by
  intro m
  induction m with
  | zero =>
    intro listed a w hm I
    have hall : ∀ i, i < n → listed.getD i true = true := fun i hi => by
      have := List.countP_eq_zero.1 hm i (List.mem_range.2 hi)
      simpa using this
    have hls : listed.size = l.length := by simpa using I.head.size
    have hle := S.le
    have hlisted : listed = ((List.range l.length).map (fun i => decide (i < n))).toArray := by
      apply Array.ext
      · simp [hls]
      · intro i h1 h2
        simp only [List.getElem_toArray, List.getElem_map, List.getElem_range]
        by_cases hi : i < n
        · have := hall i hi
          simp [h1] at this
          rw [this]; simp [hi]
        · have := I.head.tail i (by omega) (by simpa [hls] using h1)
          simp [h1] at this
          rw [this]; simp [hi]
    have ha : a = putAll D (fun i => a.eval (.tmp (D.getD i 0))) n a0 := by
      have ht : a.tmps = (putAll D (fun i => a.eval (.tmp (D.getD i 0))) n a0).tmps := by
        apply Array.ext_getElem?
        intro t
        by_cases ht : t ∈ D
        · obtain ⟨i, hi, rfl⟩ := List.getElem_of_mem ht
          have hi' : i < n := by rw [← S.len]; exact hi
          have e1 : D[i] = D.getD i 0 := by rw [List.getD_eq_getElem?_getD, List.getElem?_eq_getElem hi, Option.getD_some]
          have hlt := S.lt i hi'
          rw [e1, putAll_at D _ a0 n i hi' S.inj (by rw [hsz]; exact hlt)]
          have hb : D.getD i 0 < a.tmps.size := by rw [I.size, hsz]; exact hlt
          rw [Array.getElem?_eq_getElem hb]
          simp only [Act.eval]
          rw [Array.getD_eq_getD_getElem?, Array.getElem?_eq_getElem hb, Option.getD_some]
        · rw [I.other t ht, putAll_other]
          intro i hi e
          refine ht ?_
          rw [← e, List.getD_eq_getElem?_getD, List.getElem?_eq_getElem (by rw [S.len]; exact hi), Option.getD_some]
          exact List.getElem_mem _
      have hd : a.defers = (putAll D (fun i => a.eval (.tmp (D.getD i 0))) n a0).defers := by rw [putAll_defers, I.defers]
      generalize putAll D (fun i => a.eval (.tmp (D.getD i 0))) n a0 = b at ht hd
      cases a; cases b
      simp only at ht hd
      subst ht; subst hd
      rfl
    have hw := hend (fun i => a.eval (.tmp (D.getD i 0))) w I.below (fun i hi => I.holds i hi (getD_of_true (hall i hi) (by rw [hls]; omega)))
    rw [← ha] at hw
    have hq := wpAny_of_seq (md := .any) (Q' := Q) (l.drop n) n listed a w (fun j => by simp [List.getElem?_drop]) (by rw [List.length_drop, hlisted]; exact S.seq) hw
    rw [List.length_drop] at hq
    rw [Nat.zero_add]
    exact hq
  | succ m ih =>
    intro listed a w hm I
    have hls : listed.size = l.length := by simpa using I.head.size
    have hle := S.le
    rw [show m + 1 + (l.length - n) = (m + (l.length - n)) + 1 by omega]
    obtain ⟨i0, hi0, hun0⟩ : ∃ i, i < n ∧ listed.getD i true = false := by
      obtain ⟨i, hi, hp⟩ := List.countP_pos_iff.1 (show 0 < (List.range n).countP (fun i => !listed.getD i true) by omega)
      exact ⟨i, List.mem_range.1 hi, by simpa using hp⟩
    -- the least one that has not come up is ready
    obtain ⟨k, ⟨hk, hku⟩, hmin⟩ : ∃ k, (k < n ∧ listed.getD k true = false) ∧ ∀ j, j < k → ¬ (j < n ∧ listed.getD j true = false) := least_one (fun k => k < n ∧ listed.getD k true = false) i0 ⟨hi0, hun0⟩
    have hkr : k ∈ Region.ready .any l.toArray listed := by
      obtain ⟨o, ho, _, _, haft, _⟩ := S.op k hk
      refine mem_ready.2 ⟨hku, o, by simpa using ho, fun e he hb => ?_⟩
      have h1 := haft e he hb
      have h2 := hmin e.on h1
      have h3 : listed.getD e.on true = true := by
        by_cases h : listed.getD e.on true = true
        · exact h
        · exact absurd ⟨by omega, by simpa using h⟩ h2
      exact getD_of_true h3 (by rw [hls]; omega)
    clear i0 hi0 hun0
    by_cases hall : ∃ i, i < n ∧ listed.getD i true = false ∧ i ∉ L
    case neg =>
      -- only such as may be late are left of the head: the least one is taken first
      have hkL : k ∈ L := by
        by_cases h : k ∈ L
        · exact h
        · exact absurd ⟨k, hk, hku, h⟩ hall
      obtain ⟨o, ho, hg, hd, _, _⟩ := S.op k hk
      have ho2 : l.toArray[k]? = some o := by simpa using ho
      obtain ⟨v, hrun, hv⟩ := hlate k hkL hk o ho a.eval w (fun _ => rfl) (fun t ht => by simp only [Act.eval, Array.getD_eq_getD_getElem?, I.other t ht]) I.below (I.facts S hkr hk)
      obtain ⟨hc', I'⟩ := I.put S hsz hΨ hkr hk v w hv (Below.refl _ _)
      refine wpAny_first ho2 (Region.noSelect_spec S.sel) (fun c a w => hQ k hkL c a _ v w) _ listed a w ?_ hkr (.inl ⟨wanted_none hg _, hrun⟩) ?_
      · intro j oj hj hne hun hno
        obtain ⟨_, o', ho', hready⟩ := mem_ready.1 hkr
        obtain rfl : o' = o := Option.some.inj (ho'.symm.trans ho2)
        rcases S.late k hkL o' ho j oj (by simpa using hj) hne with h | h | h
        · obtain ⟨oj', hoj', e, he, hb, hon⟩ := Region.waitsFor_spec h
          obtain rfl : oj' = oj := Option.some.inj (hoj'.symm.trans hj)
          exact absurd hon (hno e he hb)
        · obtain ⟨o2, ho2', e, he, hb, hon⟩ := Region.waitsFor_spec h
          obtain rfl : o2 = o' := Option.some.inj (ho2'.symm.trans ho2)
          have := hready e he hb
          rw [hon, getD_both hun] at this
          cases this
        · exact h
      · rw [hd]
        exact ih _ _ _ (by omega) I'
    obtain ⟨i0, hi0, hun0, hi0L⟩ := hall
    refine ⟨fun hnil => ?_, fun i hi => ?_⟩
    · rw [hnil] at hkr
      cases hkr
    · have hin : i < n := by
        rcases S.tail with ht | ⟨hs, hc⟩
        · obtain ⟨_, o, ho, _⟩ := mem_ready.1 hi
          have := (Array.getElem?_eq_some_iff.1 ho).1
          simp at this
          omega
        · by_cases hn : n < l.length
          · by_cases h : i < n
            · exact h
            · exact absurd hi (head_first hs hc I.head I.early _ i0 rfl hi0 hi0L hun0 i (by omega))
          · obtain ⟨_, o, ho, _⟩ := mem_ready.1 hi
            have := (Array.getElem?_eq_some_iff.1 ho).1
            simp at this
            omega
      obtain ⟨o, ho, hg, hd, _, _⟩ := S.op i hin
      have ho2 : l.toArray[i]? = some o := by simpa using ho
      have hspec := opsOk_get (l.take n) 0 js hop i o (by rw [List.getElem?_take_of_lt hin]; exact ho)
      rw [Nat.zero_add] at hspec
      have hgv := hspec a.eval w (fun _ => rfl) (fun _ => rfl) (fun t ht => by simp only [Act.eval, Array.getD_eq_getD_getElem?, I.other t ht]) I.below (I.facts S hi hin)
      unfold wpOp
      simp only [ho2, wanted_none hg, if_true]
      refine .inl (wp_of_gives hgv fun v w' ⟨hv, hb⟩ => ?_)
      obtain ⟨hc', I'⟩ := I.put S hsz hΨ hi hin v w' hv hb
      rw [hd]
      exact ih _ _ _ (by omega) I'

/-- **a region that draws its order, by a table** -/
theorem wp_region_table {id : Nat} (n : Nat) (D : List Tmp) (js : List (List (Nat × Tmp))) (Ψ : Nat → Value → World → Prop) (hm : P.follows .mixedOrders = true) (hB : tableB l n a0.tmps.size D js [] [] = true)
    (hΨ : ∀ i v w w', Ψ i v w → Below w.heap.size w w' → Ψ i v w') (hop : opsOk P D a0 W0 Ψ 0 js (l.take n))
    (hend : ∀ (x : Nat → Value) (w : World), Below W0.heap.size W0 w → (∀ i, i < n → Ψ i (x i) w) → wpList P l.toArray Q (l.drop n) (putAll D x n a0) w) :
    (Code.region id l.toArray true).wp P Q a0 W0 := by
  have S := tableB_spec hB
  refine wp_region_any hm ?_
  have h := mid_any S rfl hΨ hop (fun _ h => by cases h) (fun _ h => by cases h) hend ((List.range n).countP (fun i => !(Array.replicate l.length false).getD i true)) (Array.replicate l.length false) a0 { W0 with drawn := W0.drawn + 1 } rfl
    ⟨⟨by simp, fun j oj _ hl => (by rw [getD_replicate_false] at hl; cases hl), fun t _ ht => getD_in (by simpa using ht) (getD_replicate_false _ _)⟩, (Below.refl _ W0).drew, rfl, rfl, fun _ _ => rfl, fun _ h => (by cases h), fun i _ hl => (by rw [getD_replicate_false] at hl; cases hl)⟩
  have hc : (List.range n).countP (fun i => !(Array.replicate l.length false).getD i true) = n := by
    rw [List.countP_eq_length.2]
    · simp
    · intro i hi
      have hi' : i < l.length := Nat.lt_of_lt_of_le (List.mem_range.1 hi) S.le
      simp [hi']
  rw [hc, show n + (l.length - n) = l.toArray.size by have := S.le; simp; omega] at h
  simpa using h
/-- a post that leaves no panic -/
def Calm (Q : Exit → Act → World → Prop) : Exit → Act → World → Prop
  | .panic _, _, _ => False
  | e, a, w => Q e a w
theorem Calm.intro {Q : Exit → Act → World → Prop} {a : Act} {w : World} (h : Q .normal a w) : Calm Q .normal a w := h
theorem Calm.imp {Q : Exit → Act → World → Prop} : ∀ (e : Exit) (a : Act) (w : World), Calm Q e a w → Q e a w := fun e a w h => by
  cases e <;> first | exact h | exact (h : False).elim
/-- the same, where some operations that yield in whatever world may be late ('L': they need not come up ahead of the tail) -/
theorem wp_region_late {id : Nat} (n : Nat) (D : List Tmp) (js : List (List (Nat × Tmp))) (L : List Nat) (Ψ : Nat → Value → World → Prop) (hm : P.follows .mixedOrders = true) (hB : tableB l n a0.tmps.size D js [] L = true)
    (hΨ : ∀ i v w w', Ψ i v w → Below w.heap.size w w' → Ψ i v w') (hop : opsOk P D a0 W0 Ψ 0 js (l.take n)) (hlate : ∀ i ∈ L, i < n → ∀ o, l[i]? = some o → lateOk P D a0 W0 Ψ i (js.getD i []) o)
    (hend : ∀ (x : Nat → Value) (w : World), Below W0.heap.size W0 w → (∀ i, i < n → Ψ i (x i) w) → wpList P l.toArray (Calm Q) (l.drop n) (putAll D x n a0) w) :
    (Code.region id l.toArray true).wp P Q a0 W0 := by
  have S := tableB_spec hB
  refine Code.wp_mono Calm.imp (wp_region_any (Q := Calm Q) hm ?_)
  have h := mid_any S rfl hΨ hop (fun _ _ _ _ _ _ _ h => h.elim) hlate hend ((List.range n).countP (fun i => !(Array.replicate l.length false).getD i true)) (Array.replicate l.length false) a0 { W0 with drawn := W0.drawn + 1 } rfl
    ⟨⟨by simp, fun j oj _ hl => (by rw [getD_replicate_false] at hl; cases hl), fun t _ ht => getD_in (by simpa using ht) (getD_replicate_false _ _)⟩, (Below.refl _ W0).drew, rfl, rfl, fun _ _ => rfl, fun _ h => (by cases h), fun i _ hl => (by rw [getD_replicate_false] at hl; cases hl)⟩
  have hc : (List.range n).countP (fun i => !(Array.replicate l.length false).getD i true) = n := by
    rw [List.countP_eq_length.2]
    · simp
    · intro i hi
      have hi' : i < l.length := Nat.lt_of_lt_of_le (List.mem_range.1 hi) S.le
      simp [hi']
  rw [hc, show n + (l.length - n) = l.toArray.size by have := S.le; simp; omega] at h
  simpa using h
def earlyB (l : List Oper) (n : Nat) (E : List Nat) : Bool :=
  decide (E.Nodup) && E.all (fun i => decide (i < n)) && E.all (fun i => match l[i]? with
    | some o => o.after.all (fun e => !Region.binds .any e || decide (e.on ∈ E))
    | none => true)
theorem earlyB_spec {E : List Nat} (h : earlyB l n E = true) : E.Nodup ∧ (∀ i ∈ E, i < n) ∧ ∀ i ∈ E, ∀ o, l[i]? = some o → ∀ e ∈ o.after, Region.binds .any e = true → e.on ∈ E := by
  simp only [earlyB, Bool.and_eq_true, decide_eq_true_eq, List.all_eq_true] at h
  refine ⟨h.1.1, h.1.2, fun i hi o ho e he hb => ?_⟩
  have := h.2 i hi
  rw [ho] at this
  simp only [Array.all_eq_true_iff_forall_mem, Bool.or_eq_true, Bool.not_eq_true', decide_eq_true_eq] at this
  exact (this e he).resolve_left (by simp [hb])
/-- the same, where some operations that yield in whatever world have been taken first ('E': their numbers; 'ep': which of the region's operations have come up) -/
theorem wpAny_table (n : Nat) (D : List Tmp) (js : List (List (Nat × Tmp))) (E : List Nat) (Ψ : Nat → Value → World → Prop) (hB : tableB l n a0.tmps.size D js E [] = true) {listed : Array Bool}
    (hl : listed = ((List.range l.length).map (fun i => decide (i ∈ E))).toArray) (hE0 : earlyB l n E = true)
    (hh : ∀ i ∈ E, Ψ i (a0.eval (.tmp (D.getD i 0))) W0) {fuel : Nat} (hf : fuel + E.length = l.length)
    (hΨ : ∀ i v w w', Ψ i v w → Below w.heap.size w w' → Ψ i v w') (hop : opsOk P D a0 W0 Ψ 0 js (l.take n))
    (hend : ∀ (x : Nat → Value) (w : World), Below W0.heap.size W0 w → (∀ i, i < n → Ψ i (x i) w) → wpList P l.toArray Q (l.drop n) (putAll D x n a0) w) :
    wpAny P .any l.toArray Q fuel listed a0 W0 := by
  have S := tableB_spec hB
  have hE := earlyB_spec hE0
  have hle := S.le
  have hsz : listed.size = l.length := by rw [hl]; simp
  have hat : ∀ i, i < l.length → ∀ d, listed.getD i d = decide (i ∈ E) := fun i hi d => by rw [hl]; simp [hi]
  have hc : (List.range n).countP (fun i => !listed.getD i true) = n - E.length := by
    have h1 : (List.range n).countP (fun i => !listed.getD i true) = (List.range n).countP (fun i => !decide (i ∈ E)) := List.countP_congr fun i hi => by
      rw [hat i (by have := List.mem_range.1 hi; omega)]
    have h2 := List.length_eq_countP_add_countP (p := fun i => decide (i ∈ E)) (l := List.range n)
    have h3 : (List.range n).countP (fun i => decide (i ∈ E)) = E.length := by
      rw [List.countP_eq_length_filter]
      refine (List.Perm.length_eq ?_)
      refine (List.perm_ext_iff_of_nodup (List.Nodup.sublist List.filter_sublist List.nodup_range) hE.1).2 fun i => ?_
      simp only [List.mem_filter, List.mem_range, decide_eq_true_eq]
      exact ⟨fun h => h.2, fun h => ⟨hE.2.1 i h, h⟩⟩
    have h4 : (List.range n).countP (fun i => !decide (i ∈ E)) = (List.range n).countP (fun i => decide ¬ (decide (i ∈ E) = true)) := List.countP_congr fun i _ => by simp
    rw [List.length_range] at h2
    rw [h1, h4]
    omega
  have hlen : E.length ≤ n := by
    have := List.countP_le_length (p := fun i => decide (i ∈ E)) (l := List.range n)
    have h3 : (List.range n).countP (fun i => decide (i ∈ E)) = E.length := by
      rw [List.countP_eq_length_filter]
      refine (List.Perm.length_eq ?_)
      refine (List.perm_ext_iff_of_nodup (List.Nodup.sublist List.filter_sublist List.nodup_range) hE.1).2 fun i => ?_
      simp only [List.mem_filter, List.mem_range, decide_eq_true_eq]
      exact ⟨fun h => h.2, fun h => ⟨hE.2.1 i h, h⟩⟩
    rw [h3, List.length_range] at this
    exact this
  have h := mid_any S rfl hΨ hop (fun _ h => by cases h) (fun _ h => by cases h) hend (n - E.length) listed a0 W0 hc
    ⟨⟨by simpa using hsz, fun j oj hj hlj e he hb => by
        have hjl : j < l.length := by have := (Array.getElem?_eq_some_iff.1 hj).1; simpa using this
        rw [hat j hjl] at hlj
        have hm := hE.2.2 j (by simpa using hlj) oj (by simpa using hj) e he hb
        rw [hat e.on (by have := hE.2.1 _ hm; omega)]
        simpa using hm, fun t ht htl => by
        rw [hat t (by simpa using htl)]
        simp only [decide_eq_false_iff_not]
        intro hm
        have := hE.2.1 t hm
        omega⟩, Below.refl _ _, rfl, rfl, fun _ _ => rfl, fun i hi => by
        rw [hat i (by have := hE.2.1 i hi; omega)]; simpa using hi, fun i hi hli => by
        rw [hat i (by omega)] at hli
        exact hh i (by simpa using hli)⟩
  rw [show n - E.length + (l.length - n) = fuel by omega] at h
  exact h
end

/-- an operation that yields in whatever world is taken first -/
theorem wpAny_early {P : Program} {md : Region.Mode} {ops : Array Oper} {Q : Exit → Act → World → Prop} (i : Nat) (d : Tmp) (v : Value) {fuel : Nat} {listed : Array Bool} {a : Act} {w : World}
    (hs : Region.noSelect ops = true) (hf : Region.free md ops listed i = true) (hr : (Region.ready md ops listed).contains i = true) (hQ : ∀ c a w, Q (.panic c) (a.put (some d) v) w → Q (.panic c) a w)
    (ho : (ops[i]?).map (·.dst) = some (some d)) (hy : ∀ o, ops[i]? = some o → Yields P ops o v a)
    (h : wpAny P md ops Q fuel (listed.setIfInBounds i true) (a.put (some d) v) w) : wpAny P md ops Q (fuel + 1) listed a w := by
  cases hi : ops[i]? with
  | none => rw [hi] at ho; cases ho
  | some o =>
    rw [hi] at ho
    have hd : o.dst = some d := by simpa using ho
    refine wpAny_take hi hs hf hr ?_ (hy o hi) ?_
    · rw [hd]; exact hQ
    · rw [hd]; exact h
/-- 'append(s, x...)' as one operation of such a region -/
theorem gives_app {P : Program} {o : Oper} {ρ : Operand → Value} {w : World} {R : Value → World → Prop} (s x : Operand) (t : TypeId) (ho : o.op = .call { callee := .builtin .append, args := #[s, x], argTypes := #[t, t] }) (base : Nat) (e : TypeId)
    (z : Value) (size bytes : Nat) (ht : P.underlying t = some (.slice e)) (hi : (P.info? e).map (fun i => (i.zero, i.size, i.bytes)) = some (some z, size, bytes)) (hzs : z.cells.size = size) (hsz : 0 < size) (v : Value) (n : Nat) (xs : List Value) (hs : ρ s = v)
    (hown : w.ownsRow base e size v n xs) (ao : Option Addr) (m c : Nat) (news : List Value) (hx : ρ x = .slice ao m c) (hnone : ao = none → m = 0 ∧ c = 0) (hl : news.length = m * size)
    (hnews : ∀ ad, ao = some ad → ∀ (j : Nat) (u : Value), news[j]? = some u → w.cell? (ad.add j) = some u) (h1 : ∀ u, u ∈ news → u.oneCell' = true) (h63 : n + m ≤ maxLen) (hbytes : (n + m) * bytes ≤ 140737488355328) (hbase : base ≤ w.heap.size)
    (h : ∀ (v' : Value) (w' : World), w'.ownsRow base e size v' (n + m) (xs ++ news) → Below base w w' → w.grownBy w' v.ownBlock → R v' w') : gives P o ρ w R := by
  obtain ⟨i0, hi0, hz0, hz1, hz2⟩ := info_parts hi
  cases ao with
  | none =>
    obtain ⟨rfl, rfl⟩ := hnone rfl
    have hn : news = [] := List.eq_nil_of_length_eq_zero (by simpa using hl)
    subst hn
    have hr := run_append_owned_none (P := P) w base t o.type e i0 size ht hi0 v n xs hown
    unfold gives execOp
    simp only [ho, resolve, invoke, builtin, Sem.run_bind, Sem.run_pure, Result.andThen_ok, List.map_toArray, List.map_cons, List.map_nil, hs, hx, hr]
    exact h v w (by simpa using hown) (Below.refl _ _) (World.grownBy.refl _ _)
  | some ad =>
    obtain ⟨v', w', hr, h2, h3, _⟩ := run_append_own (P := P) w base t o.type e i0 z size bytes ht hi0 hz0 hz1 hz2 hzs hsz v n xs hown ad m c news hl (hnews ad rfl) h1 h63 hbytes hbase
    unfold gives execOp
    simp only [ho, resolve, invoke, builtin, Sem.run_bind, Sem.run_pure, Result.andThen_ok, List.map_toArray, List.map_cons, List.map_nil, hs, hx, hr]
    exact h v' w' h2 ((Below.refl _ _).grown h3 hbase (fun k hk => (hown.lt k hk).1)) h3
theorem gives_app_ints {P : Program} {o : Oper} {ρ : Operand → Value} {w : World} {R : Value → World → Prop} (s x : Operand) (t : TypeId) (ho : o.op = .call { callee := .builtin .append, args := #[s, x], argTypes := #[t, t] }) (base : Nat) (e : TypeId) (k : IntKind)
    (bytes : Nat) (ht : P.underlying t = some (.slice e)) (hi : (P.info? e).map (fun i => (i.zero, i.size, i.bytes)) = some (some (.int k 0), 1, bytes)) (v : Value) (n : Nat) (xs : List Int) (hs : ρ s = v)
    (hown : w.ownsRow base e 1 v n (xs.map (Value.int k))) (x' : Value) (ys : List Int) (hx : ρ x = x') (hsrc : Sl k w x' ys) (hlen : (xs.length + ys.length) * bytes ≤ 140737488355328) (hm : xs.length + ys.length ≤ maxLen) (hbase : base ≤ w.heap.size)
    (h : ∀ (v' : Value) (w' : World), w'.ownsRow base e 1 v' (xs.length + ys.length) ((xs ++ ys).map (Value.int k)) → Below base w w' → w.grownBy w' v.ownBlock → R v' w') : gives P o ρ w R := by
  have hn : n = xs.length := by have := hown.1; simpa using this.symm
  subst hn
  obtain ⟨ao, c, e', _⟩ := id hsrc
  subst e'
  refine gives_app s x t ho base e (.int k 0) 1 bytes ht hi rfl (by decide) v xs.length (xs.map (Value.int k)) hs hown ao ys.length c (ys.map (Value.int k)) hx ?_ (by simp) ?_ (ints_oneCell _ _) hm hlen hbase ?_
  · intro h0; subst h0; exact hsrc.bare
  · intro ad h0; subst h0
    by_cases h0 : 0 < ys.length
    · obtain ⟨ad', e', hc⟩ := hsrc.cells h0
      cases e'
      exact hc
    · intro j u hj
      obtain rfl : ys = [] := List.eq_nil_of_length_eq_zero (by omega)
      simp at hj
  · intro v' w' hown' hb hg
    exact h v' w' (by simpa using hown') hb hg

/-- two worlds in which an empty row is owned at one block differ by nothing there -/
theorem empty_same {w w' : World} {base g : Nat} {e : TypeId} (h : w.ownsRow base e 1 (.slice (some ⟨g, 0, none⟩) 0 0) 0 []) (h' : w'.ownsRow base e 1 (.slice (some ⟨g, 0, none⟩) 0 0) 0 []) : w'.heap[g]? = w.heap[g]? := by
  have k := own_block h
  have k' := own_block h'
  rw [k, k']
/-- 'append([]T{}, x...)' as one operation of such a region: the empty literal has just been made -/
theorem gives_fresh_ints {P : Program} {o : Oper} {ρ : Operand → Value} {w : World} {R : Value → World → Prop} (s x : Operand) (t : TypeId) (ho : o.op = .call { callee := .builtin .append, args := #[s, x], argTypes := #[t, t] }) (base : Nat) (e : TypeId) (k : IntKind)
    (bytes : Nat) (ht : P.underlying t = some (.slice e)) (hi : (P.info? e).map (fun i => (i.zero, i.size, i.bytes)) = some (some (.int k 0), 1, bytes)) (g : Nat) (hs : ρ s = .slice (some ⟨g, 0, none⟩) 0 0)
    (hown : w.ownsRow base e 1 (.slice (some ⟨g, 0, none⟩) 0 0) 0 []) (x' : Value) (ys : List Int) (hx : ρ x = x') (hsrc : Sl k w x' ys) (hlen : ys.length * bytes ≤ 140737488355328) (hm : ys.length ≤ maxLen) (hbase : base ≤ w.heap.size)
    (h : ∀ (v' : Value) (w' : World), w'.ownsRow base e 1 v' ys.length (ys.map (Value.int k)) → Below w.heap.size w w' → R v' w') : gives P o ρ w R := by
  obtain ⟨i0, hi0, hz0, hz1, hz2⟩ := info_parts hi
  obtain ⟨ao, c, e', _⟩ := id hsrc
  subst e'
  have run : ∀ v' w', (Builtin.append_ #[t, t] o.type #[.slice (some ⟨g, 0, none⟩) 0 0, .slice ao ys.length c]).run P w = .ok v' w' → R v' w' → gives P o ρ w R := fun v' w' hr hR => by
    unfold gives execOp
    simp only [ho, resolve, invoke, builtin, Sem.run_bind, Sem.run_pure, Result.andThen_ok, List.map_toArray, List.map_cons, List.map_nil, hs, hx, hr]
    exact hR
  by_cases h0 : ys.length = 0
  · obtain rfl : ys = [] := List.eq_nil_of_length_eq_zero h0
    cases ao with
    | none =>
      have hc := hsrc.bare.2
      subst hc
      exact run _ _ (run_append_owned_none (P := P) w base t o.type e i0 1 ht hi0 _ 0 [] hown) (h _ _ (by simpa using hown) (Below.refl _ _))
    | some ad =>
      obtain ⟨w', hr, h2, h3⟩ := run_append_fits (P := P) w base t o.type e i0 1 ht hi0 hz1 g 0 0 [] hown ad 0 c [] rfl (by simp) (by simp) (by omega)
      refine run _ _ hr (h _ _ (by simpa using h2) ⟨h3.os, h3.tape, h3.output, h3.size, fun k hk => ?_⟩)
      by_cases hkg : k = g
      · subst hkg; exact empty_same hown (by simpa using h2)
      · exact h3.block k hk (fun e => hkg (Option.some.inj e))
  · obtain ⟨ad, rfl, hsc⟩ := hsrc.cells (by omega)
    obtain ⟨v', w', hr, h2, h3⟩ := run_append_arg_grows (P := P) w t o.type e i0 (.int k 0) 1 bytes ht hi0 hz0 hz1 hz2 rfl (by decide) ⟨g, 0, none⟩ 0 0 [] rfl (by simp) ad ys.length c (ys.map (Value.int k)) (by simp) hsc (by omega) (by omega) (by simpa using hlen)
    exact run _ _ hr (h _ _ (by simpa using owned_mono h2 hbase) ((Below.refl _ _).grown h3 (Nat.le_refl _) (fun k hk => by cases hk)))

end Go.Proofs.YtenapfpkegoonaaDoor

/-
  Package item: the kinds' table, as a package-level variable holds it; an item in a block of its own; places' pointers.
-/
namespace Go.Proofs.YtenapfpkegoonaaDoor
open Go.RowKit

/-- what the variable's cells hold: bits, above, least, texts, five times -/
def shCells : Array Value := #[.int .i64 7, .int .i64 128, .int .i64 1, .bool false, .int .i64 6, .int .i64 64, .int .i64 0, .bool true, .int .i64 4, .int .i64 0, .int .i64 0, .bool true,
  .int .i64 4, .int .i64 16, .int .i64 0, .bool true, .int .i64 5, .int .i64 32, .int .i64 0, .bool false]
def ShT (w : World) : Prop := ∃ t fr, w.heap[0]? = some (.cells shCells t fr)
theorem ShT.lt {w : World} (h : ShT w) : 0 < w.heap.size := by
  obtain ⟨t, fr, h⟩ := h
  exact (Array.getElem?_eq_some_iff.1 h).1
theorem ShT.low {w w' : World} {B : Nat} (h : ShT w) (hb : Below B w w') (h0 : 0 < B) : ShT w' := by
  obtain ⟨t, fr, h⟩ := h
  exact ⟨t, fr, (hb.block _ h0).trans h⟩
theorem ShT.below {w w' : World} (h : ShT w) (hb : Below w.heap.size w w') : ShT w' := h.low hb h.lt
theorem ShT.cell {w : World} (h : ShT w) (j : Nat) (v : Value) (hj : shCells[j]? = some v) : w.cell? ⟨0, j, none⟩ = some v := by
  obtain ⟨t, fr, h⟩ := h
  simp [World.cell?, h, hj]

/-- a kind's bits, what is above, the least number, whether there are texts -/
def bitsI (k : Int) : Int := if k = 0 then 7 else if k = 1 then 6 else if k = 4 then 5 else 4
def aboveI (k : Int) : Int := if k = 0 then 128 else if k = 1 then 64 else if k = 3 then 16 else if k = 4 then 32 else 0
def leastI (k : Int) : Int := if k = 0 then 1 else 0
def textsI (k : Int) : Bool := decide (1 ≤ k ∧ k ≤ 3)
theorem kind_cases {k : Int} (h0 : 0 ≤ k) (h4 : k < 5) : k = 0 ∨ k = 1 ∨ k = 2 ∨ k = 3 ∨ k = 4 := by omega

/-- an item, by value; in the block g -/
def itV (k n : Int) (a b : ByteArray) : Value := .agg #[.int .i64 k, .int .i64 n, .string a, .string b]
def ItAt (W : World) (g : Nat) (t : TypeId) (k n : Int) (a b : ByteArray) : Prop := W.heap[g]? = some (.cells #[.int .i64 k, .int .i64 n, .string a, .string b] t (0, 0))
theorem ItAt.lt {W : World} {g : Nat} {t : TypeId} {k n : Int} {a b : ByteArray} (h : ItAt W g t k n a b) : g < W.heap.size := (Array.getElem?_eq_some_iff.1 h).1
theorem ItAt.low {W W' : World} {B g : Nat} {t : TypeId} {k n : Int} {a b : ByteArray} (h : ItAt W g t k n a b) (hb : Below B W W') (hg : g < B) : ItAt W' g t k n a b := (hb.block g hg).trans h
theorem ItAt.grown {W W' : World} {g : Nat} {t : TypeId} {k n : Int} {a b : ByteArray} (h : ItAt W g t k n a b) (hb : Below W.heap.size W W') : ItAt W' g t k n a b := h.low hb h.lt
theorem ItAt.c0 {W : World} {g : Nat} {t : TypeId} {k n : Int} {a b : ByteArray} (h : ItAt W g t k n a b) : W.cell? ⟨g, 0, none⟩ = some (.int .i64 k) := by unfold ItAt at h; simp [World.cell?, h]
theorem ItAt.c1 {W : World} {g : Nat} {t : TypeId} {k n : Int} {a b : ByteArray} (h : ItAt W g t k n a b) : W.cell? ⟨g, 1, none⟩ = some (.int .i64 n) := by unfold ItAt at h; simp [World.cell?, h]
theorem ItAt.c2 {W : World} {g : Nat} {t : TypeId} {k n : Int} {a b : ByteArray} (h : ItAt W g t k n a b) : W.cell? ⟨g, 2, none⟩ = some (.string a) := by unfold ItAt at h; simp [World.cell?, h]
theorem ItAt.c3 {W : World} {g : Nat} {t : TypeId} {k n : Int} {a b : ByteArray} (h : ItAt W g t k n a b) : W.cell? ⟨g, 3, none⟩ = some (.string b) := by unfold ItAt at h; simp [World.cell?, h]

/-- what places answers: pointers into the block g -/
def Pts (w : World) (v : Value) (g : Nat) (offs : List Nat) : Prop :=
  ∃ a cap, v = .slice a offs.length cap ∧ (offs = [] ∨ ∃ b, a = some ⟨b, 0, none⟩ ∧ b < w.heap.size ∧ b ≠ g ∧ ∀ i o, offs[i]? = some o → w.cell? ⟨b, i, none⟩ = some (.pointer (some ⟨g, o, none⟩)))
def offsI (k n : Int) : List Nat := if textsI k then if n = 0 then [2, 3] else [3] else []

theorem isKind_any (k : Int) (w : World) :
    Calls Tryd.prog 75 #[.int .i64 k] w fun e w' => e = .returned (.bool (decide (0 ≤ k ∧ k < 5))) ∧ w = w' := by
  by_cases h0 : 0 ≤ k
  · have d1 : decide (0 ≤ k) = true := decide_eq_true h0
    have HD := Lib.hid (show decide (0 ≤ k ∧ k < 5) = decide (k < 5) by simp [h0])
    clear h0
    go_enter Tryd.func75, Tryd.ntmps75
    go_wp2
    go_ret
    exact ⟨by rw [HD.out]; rfl, rfl⟩
  · have d1 : decide (0 ≤ k) = false := decide_eq_false h0
    have HD := Lib.hid (show decide (0 ≤ k ∧ k < 5) = false by simp [h0])
    clear h0
    go_enter Tryd.func75, Tryd.ntmps75
    go_wp2
    go_ret
    exact ⟨by rw [HD.out]; rfl, rfl⟩
theorem iText_any (s : ByteArray) (w : World) :
    Calls Tryd.prog 76 #[.string s] w fun e w' => e = .returned (.bool (decide (s.size ≤ 65536))) ∧ w = w' := by
  go_enter Tryd.func76, Tryd.ntmps76
  go_wp2
  go_ret
  exact ⟨by congr 2; simp; omega, rfl⟩
theorem ShT.texts {w : World} (h : ShT w) : w.cell? ⟨0, 3, none⟩ = some (.bool false) ∧ w.cell? ⟨0, 7, none⟩ = some (.bool true) ∧ w.cell? ⟨0, 11, none⟩ = some (.bool true) ∧ w.cell? ⟨0, 15, none⟩ = some (.bool true) ∧ w.cell? ⟨0, 19, none⟩ = some (.bool false) :=
  ⟨h.cell 3 _ rfl, h.cell 7 _ rfl, h.cell 11 _ rfl, h.cell 15 _ rfl, h.cell 19 _ rfl⟩
set_option maxRecDepth 20000 in
theorem places_any (g : Nat) (t : TypeId) (k n : Int) (a b : ByteArray) (w : World) (hI : ItAt w g t k n a b) (hT : ShT w) (h0 : 0 ≤ k) (h4 : k < 5) :
    Calls Tryd.prog 54 #[.pointer (some ⟨g, 0, none⟩)] w fun e w' => ∃ v, e = .returned v ∧ Pts w' v g (offsI k n) ∧ Below w.heap.size w w' := by
  have c0 := hI.c0
  have c1 := hI.c1
  have hgl := hI.lt
  obtain ⟨t0, t1, t2, t3, t4⟩ := hT.texts
  clear hI hT
  rcases kind_cases h0 h4 with rfl | rfl | rfl | rfl | rfl
  case' inr.inr.inr.inr => skip
  case' inl => skip
  all_goals clear h0 h4
  case inl =>
    go_enter Tryd.func54, Tryd.ntmps54
    go_wp2_with fail
    go_ret
    exact ⟨_, rfl, ⟨none, 0, rfl, .inl rfl⟩, Below.refl _ _⟩
  case inr.inr.inr.inr =>
    go_enter Tryd.func54, Tryd.ntmps54
    go_wp2_with fail
    go_ret
    exact ⟨_, rfl, ⟨none, 0, rfl, .inl rfl⟩, Below.refl _ _⟩
  all_goals
    by_cases hn : n = 0
    · subst hn
      go_enter Tryd.func54, Tryd.ntmps54
      go_wp2_with fail
      refine wp_region_table 6 [22, 23, 24, 25, 26, 27] [[], [(0, 22)], [(1, 23)], [], [(3, 25)], [(4, 26)]]
        (fun i v w' => match i with
          | 0 => v = .pointer (some ⟨g, 0, none⟩)
          | 1 => v = .pointer (some ⟨g, 0, none⟩)
          | 2 => v = .pointer (some ⟨g, 2, none⟩)
          | 3 => v = .pointer (some ⟨g, 0, none⟩)
          | 4 => v = .pointer (some ⟨g, 0, none⟩)
          | 5 => v = .pointer (some ⟨g, 3, none⟩)
          | _ => True) (by kernel_rfl) (by kernel_rfl) ?tStab ?tOps ?tRest
      case tStab =>
        intro i v w3 w4 h hb
        match i, h with
        | 0, h | 1, h | 2, h | 3, h | 4, h | 5, h => exact h
        | i + 6, _ => trivial
      case tOps =>
        simp only [List.take_succ_cons, List.take_zero, opsOk]
        refine ⟨?_, ?_, ?_, ?_, ?_, ?_, trivial⟩
        · intro ρ w3 hc hf ho hB hj
          have x0 : ρ (.tmp 0) = .pointer (some ⟨g, 0, none⟩) := ho 0 (by decide)
          simp [gives, go_sem, x0, Below.refl]
        · intro ρ w3 hc hf ho hB hj
          have x0 : ρ (.tmp 22) = .pointer (some ⟨g, 0, none⟩) := hj (0, 22) (by simp)
          simp [gives, go_sem, x0, Below.refl]
        · intro ρ w3 hc hf ho hB hj
          have x0 : ρ (.tmp 23) = .pointer (some ⟨g, 0, none⟩) := hj (1, 23) (by simp)
          simp [gives, go_sem, x0, Below.refl]
        · intro ρ w3 hc hf ho hB hj
          have x0 : ρ (.tmp 0) = .pointer (some ⟨g, 0, none⟩) := ho 0 (by decide)
          simp [gives, go_sem, x0, Below.refl]
        · intro ρ w3 hc hf ho hB hj
          have x0 : ρ (.tmp 25) = .pointer (some ⟨g, 0, none⟩) := hj (3, 25) (by simp)
          simp [gives, go_sem, x0, Below.refl]
        · intro ρ w3 hc hf ho hB hj
          have x0 : ρ (.tmp 26) = .pointer (some ⟨g, 0, none⟩) := hj (4, 26) (by simp)
          simp [gives, go_sem, x0, Below.refl]
      case tRest =>
        intro X w3 hBw hX
        have x0 : X 0 = .pointer (some ⟨g, 0, none⟩) := hX 0 (by decide)
        have x1 : X 1 = .pointer (some ⟨g, 0, none⟩) := hX 1 (by decide)
        have x2 : X 2 = .pointer (some ⟨g, 2, none⟩) := hX 2 (by decide)
        have x3 : X 3 = .pointer (some ⟨g, 0, none⟩) := hX 3 (by decide)
        have x4 : X 4 = .pointer (some ⟨g, 0, none⟩) := hX 4 (by decide)
        have x5 : X 5 = .pointer (some ⟨g, 3, none⟩) := hX 5 (by decide)
        simp only [putAll, List.getD_cons_zero, List.getD_cons_succ, Act.put, List.setIfInBounds_toArray, List.set_cons_zero, List.set_cons_succ, List.drop_succ_cons, List.drop_zero]
        rw [x0, x1, x2, x3, x4, x5]
        clear hX x0 x1 x2 x3 x4 x5
        go_wp2_with fail
        go_ret
        refine ⟨_, rfl, ?_, hBw.alloc hBw.size _⟩
        refine ⟨some ⟨w3.heap.size, 0, none⟩, 2, rfl, .inr ⟨w3.heap.size, rfl, by simp, by have := hBw.size; omega, ?_⟩⟩
        intro i o h
        match i, h with
        | 0, h => obtain rfl := Option.some.inj h; rw [World.cell?_alloc_at _ _ _ _ rfl]; rfl
        | 1, h => obtain rfl := Option.some.inj h; rw [World.cell?_alloc_at _ _ _ _ rfl]; rfl
        | i + 2, h => cases h
    · have e1 : (n == 0) = false := by simp [hn]
      have HO := Lib.hid (show offsI 1 n = [3] ∧ offsI 2 n = [3] ∧ offsI 3 n = [3] by simp [offsI, textsI, hn])
      clear hn
      go_enter Tryd.func54, Tryd.ntmps54
      go_wp2_with fail
      go_ret
      refine ⟨_, rfl, ?_, (Below.refl _ _).alloc (Nat.le_refl _) _⟩
      simp only [HO.out.1, HO.out.2.1, HO.out.2.2]
      refine ⟨_, 1, rfl, .inr ⟨w.heap.size, rfl, by simp, by omega, ?_⟩⟩
      intro i o h
      match i, h with
      | 0, h => obtain rfl := Option.some.inj h; rw [World.cell?_alloc_at _ _ _ _ rfl]; rfl
end Go.Proofs.YtenapfpkegoonaaDoor

/-
  Package item: a row of the kinds' table, by an index that isn't known; which items may be.
-/
namespace Go.Proofs.YtenapfpkegoonaaDoor
open Go.RowKit

theorem shArr : Tryd.prog.underlying 104 = some (.array (Tryd.prog.arrayLen 104) (Tryd.prog.elem 104)) := by kernel_rfl
theorem shLen : Tryd.prog.arrayLen 104 = 5 := by kernel_rfl
theorem shElem (w : World) : (sizeOf (Tryd.prog.elem 104)).run Tryd.prog w = .ok 4 w := by kernel_rfl
/-- the row of a kind: where it lies, what it holds -/
theorem sh_row {k : Int} (h0 : 0 ≤ k) (h4 : k < 5) : ∃ K : Nat,
    (∀ (q : IntKind) (W : World), (Instr.indexAt 104 (.pointer (some ⟨0, 0, none⟩)) (.int q k)).run Tryd.prog W = .ok (.pointer (some ⟨0, K, none⟩)) W) ∧
    ∀ W : World, ShT W → W.cell? ⟨0, K, none⟩ = some (.int .i64 (bitsI k)) ∧ W.cell? ⟨0, K + 1, none⟩ = some (.int .i64 (aboveI k)) ∧
      W.cell? ⟨0, K + 2, none⟩ = some (.int .i64 (leastI k)) ∧ W.cell? ⟨0, K + 3, none⟩ = some (.bool (textsI k)) := by
  refine ⟨k.toNat * 4, fun q W => ?_, fun W hW => ?_⟩
  · rw [run_indexAt_array W 104 ⟨0, 0, none⟩ q k shArr, shLen, if_pos ⟨by omega, by omega⟩, shElem]
    simp [Result.andThen, Addr.add, eq_comm]
  · rcases kind_cases h0 h4 with rfl | rfl | rfl | rfl | rfl
    · exact ⟨hW.cell 0 _ rfl, hW.cell 1 _ rfl, hW.cell 2 _ rfl, hW.cell 3 _ rfl⟩
    · exact ⟨hW.cell 4 _ rfl, hW.cell 5 _ rfl, hW.cell 6 _ rfl, hW.cell 7 _ rfl⟩
    · exact ⟨hW.cell 8 _ rfl, hW.cell 9 _ rfl, hW.cell 10 _ rfl, hW.cell 11 _ rfl⟩
    · exact ⟨hW.cell 12 _ rfl, hW.cell 13 _ rfl, hW.cell 14 _ rfl, hW.cell 15 _ rfl⟩
    · exact ⟨hW.cell 16 _ rfl, hW.cell 17 _ rfl, hW.cell 18 _ rfl, hW.cell 19 _ rfl⟩

/-- an item may be -/
def rightI (k n : Int) (a b : ByteArray) : Prop := (0 ≤ k ∧ k < 5) ∧ leastI k ≤ n ∧ n ≤ 16777215 ∧ (textsI k = true → a.size ≤ 65536 ∧ b.size ≤ 65536 ∧ (n ≠ 0 → a.size = 0)) ∧ (textsI k = false → a.size = 0 ∧ b.size = 0)
instance (k n : Int) (a b : ByteArray) : Decidable (rightI k n a b) := by unfold rightI; infer_instance

theorem right_noKind (k n : Int) (a b : ByteArray) (w : World) (h : ¬ (0 ≤ k ∧ k < 5)) :
    Calls Tryd.prog 52 #[itV k n a b] w fun e w' => e = .returned (.bool false) ∧ Below w.heap.size w w' := by
  unfold itV
  have D := Lib.hid (decide_eq_false h)
  have HK : Hid (∀ W : World, Calls Tryd.prog 75 #[.int .i64 k] W fun e w' => e = .returned (.bool false) ∧ w' = W) := fun W => (isKind_any k W).mono (fun e w' h => ⟨by rw [h.1, D.out], h.2.symm⟩)
  clear h D
  go_enter Tryd.func52, Tryd.ntmps52
  go_wp2_with fail
  go_quiet ((go_at_call 75; exact Calls.quiet_of_same (HK.out _)))
  go_wp2_with fail
  go_ret
  exact ⟨rfl, below_drewN ((Below.refl _ _).alloc (Nat.le_refl _) _) _⟩

theorem right_noNum (k n : Int) (a b : ByteArray) (w : World) (hT : ShT w) (h : 0 ≤ k ∧ k < 5) (hn : n < leastI k ∨ 16777215 < n) :
    Calls Tryd.prog 52 #[itV k n a b] w fun e w' => e = .returned (.bool false) ∧ Below w.heap.size w w' := by
  unfold itV
  have D := Lib.hid (decide_eq_true h)
  have HK : Hid (∀ W : World, Calls Tryd.prog 75 #[.int .i64 k] W fun e w' => e = .returned (.bool true) ∧ w' = W) := fun W => (isKind_any k W).mono (fun e w' h => ⟨by rw [h.1, D.out], h.2.symm⟩)
  obtain ⟨K, hix, hc⟩ := sh_row h.1 h.2
  obtain ⟨_, _, c2, _⟩ := hc _ (hT.below ((Below.refl _ w).alloc (Nat.le_refl _) (.cells #[.int .i64 k, .int .i64 n, .string a, .string b] 65)))
  obtain ⟨L, hL⟩ : ∃ L, leastI k = L := ⟨_, rfl⟩
  rw [hL] at c2 hn
  clear h D hc hL hT
  by_cases h1 : n < L
  · have d1 : decide (n < L) = true := decide_eq_true h1
    clear hn h1
    go_enter Tryd.func52, Tryd.ntmps52
    go_wp2_with fail
    go_quiet ((go_at_call 75; exact Calls.quiet_of_same (HK.out _)))
    go_wp2_with fail
    go_ret
    exact ⟨rfl, below_drewN ((Below.refl _ _).alloc (Nat.le_refl _) _) _⟩
  · have d1 : decide (n < L) = false := decide_eq_false h1
    have d2 : decide (16777215 < n) = true := decide_eq_true (by omega)
    clear hn h1
    go_enter Tryd.func52, Tryd.ntmps52
    go_wp2_with fail
    go_quiet ((go_at_call 75; exact Calls.quiet_of_same (HK.out _)))
    go_wp2_with fail
    go_ret
    exact ⟨rfl, below_drewN ((Below.refl _ _).alloc (Nat.le_refl _) _) _⟩

/-- an item in its block N, and pointers into it in another block B -/
def Gone (w : World) (N B : Nat) (offs : List Nat) (k n : Int) (W : World) (a b : ByteArray) : Prop :=
  ItAt W N 65 k n a b ∧ Below w.heap.size w W ∧ B ≠ N ∧ ∀ i o, offs[i]? = some o → W.cell? ⟨B, i, none⟩ = some (.pointer (some ⟨N, o, none⟩))
theorem Gone.put2 {w W : World} {N B : Nat} {offs : List Nat} {k n : Int} {a b : ByteArray} (h : Gone w N B offs k n W a b) (hN : w.heap.size ≤ N) (s : ByteArray) : Gone w N B offs k n (W.setCell ⟨N, 2, none⟩ (.string s)) s b := by
  obtain ⟨h1, h2, h3, h4⟩ := h
  refine ⟨?_, h2.setCell (p := ⟨N, 2, none⟩) hN _, h3, fun i o hi => ?_⟩
  · unfold ItAt
    rw [heap_setCell_same _ _ 2 _ _ _ h1]; rfl
  · rw [← h4 i o hi]
    exact World.cell?_of_block (Below.heap_setCell _ _ _ _ h3)
theorem Gone.put3 {w W : World} {N B : Nat} {offs : List Nat} {k n : Int} {a b : ByteArray} (h : Gone w N B offs k n W a b) (hN : w.heap.size ≤ N) (s : ByteArray) : Gone w N B offs k n (W.setCell ⟨N, 3, none⟩ (.string s)) a s := by
  obtain ⟨h1, h2, h3, h4⟩ := h
  refine ⟨?_, h2.setCell (p := ⟨N, 3, none⟩) hN _, h3, fun i o hi => ?_⟩
  · unfold ItAt
    rw [heap_setCell_same _ _ 3 _ _ _ h1]; rfl
  · rw [← h4 i o hi]
    exact World.cell?_of_block (Below.heap_setCell _ _ _ _ h3)
theorem size_nil {s : ByteArray} (h : s.size = 0) : s = ⟨#[]⟩ := by
  cases s with
  | mk d => simp [ByteArray.size] at h; rw [h]
theorem toList_nil {s : ByteArray} : s.toList = [] ↔ s = ⟨#[]⟩ := by
  rw [ByteArray.toList_eq]
  exact ⟨fun h => ByteArray.ext (Array.toList_inj.1 (by simpa using h)), fun h => by rw [h]⟩
theorem decide_toList {p : Prop} [Decidable p] {s : ByteArray} (h : p ↔ s = ⟨#[]⟩) : decide p = s.toList.isEmpty := by
  rw [Bool.eq_iff_iff, decide_eq_true_iff, List.isEmpty_iff, toList_nil, h]
theorem ItAt.free {W : World} {g : Nat} {t : TypeId} {k n : Int} {a b : ByteArray} (h : ItAt W g t k n a b) (j : Nat) : W.frozen? ⟨g, j, none⟩ = false := blk_free h

theorem right_yes (k n : Int) (a b : ByteArray) (w : World) (hT : ShT w) (h : 0 ≤ k ∧ k < 5) (hn : leastI k ≤ n ∧ n ≤ 16777215) :
    Calls Tryd.prog 52 #[itV k n a b] w fun e w' => e = .returned (.bool (decide (rightI k n a b))) ∧ Below w.heap.size w w' := by
  unfold itV
  have D := Lib.hid (decide_eq_true h)
  have HKD : Hid (∀ W : World, Calls Tryd.prog 75 #[.int .i64 k] W fun e w' => e = .returned (.bool true) ∧ w' = W) := fun W => (isKind_any k W).mono (fun e w' h => ⟨by rw [h.1, D.out], h.2.symm⟩)
  obtain ⟨K, hix, hc⟩ := sh_row h.1 h.2
  have hT1 := hT.below ((Below.refl _ w).alloc (Nat.le_refl _) (.cells #[.int .i64 k, .int .i64 n, .string a, .string b] 65))
  obtain ⟨_, _, c2, _⟩ := hc _ hT1
  obtain ⟨L, hL⟩ : ∃ L, leastI k = L := ⟨_, rfl⟩
  rw [hL] at c2
  have d1 : decide (n < L) = false := decide_eq_false (by omega)
  have d2 : decide (16777215 < n) = false := decide_eq_false (by omega)
  have HR : Hid (rightI k n a b ↔ (textsI k = true → a.size ≤ 65536 ∧ b.size ≤ 65536 ∧ (n ≠ 0 → a.size = 0)) ∧ (textsI k = false → a.size = 0 ∧ b.size = 0)) := ⟨fun x => x.2.2.2, fun x => ⟨h, hn.1, hn.2, x⟩⟩
  have HT := Lib.hid hT1
  have HK := Lib.hid h
  clear h D hc hL hT hn hT1
  go_enter Tryd.func52, Tryd.ntmps52
  go_wp2_with fail
  go_quiet ((go_at_call 75; exact Calls.quiet_of_same (HKD.out _)))
  go_wp2_with fail
  refine Calls.mono (places_any w.heap.size 65 k n a b _ ?hi ?ht HK.out.1 HK.out.2) ?_
  case hi => exact heap_alloc_new _ _
  case ht => exact HT.out
  rintro e w1 ⟨v, rfl, hp, hb1⟩
  have hI : ItAt w1 w.heap.size 65 k n a b := (hb1.block _ (by simp)).trans (heap_alloc_new _ _)
  have hB : Below w.heap.size w w1 := (below_drewN ((Below.refl _ _).alloc (Nat.le_refl _) _) _).trans (hb1.mono (by simp))
  have HI := Lib.hid (And.intro hI hB)
  clear hb1 hI hB c2 hix d1 d2
  by_cases ht : textsI k = true
  · by_cases h0 : n = 0
    · have e : offsI k n = [2, 3] := by simp [offsI, ht, h0]
      rw [e] at hp
      obtain ⟨ad, cap, rfl, hp | ⟨B, rfl, hB1, hB2, hB3⟩⟩ := hp
      · cases hp
      · have HR2 : Hid (rightI k n a b ↔ a.size ≤ 65536 ∧ b.size ≤ 65536) := HR.out.trans ⟨fun x => ⟨(x.1 ht).1, (x.1 ht).2.1⟩, fun x => ⟨fun _ => ⟨x.1, x.2, fun y => absurd h0 y⟩, fun y => by rw [ht] at y; cases y⟩⟩
        have HG : Hid (Gone w w.heap.size B [2, 3] k n w1 a b) := ⟨HI.out.1, HI.out.2, hB2, hB3⟩
        have hlen : ([2, 3] : List Nat).length = 2 := rfl
        rw [hlen]
        clear hB2 hB3 HI HT HK h0 ht e HR hlen HKD
        go_wp2_with fail
        go_loopg [26] 2 (fun g s26 wr => ∃ (j : Nat) (a' b' : ByteArray), j + g = 2 ∧ s26 = .int .i64 j ∧ Hid (Gone w w.heap.size B [2, 3] k n wr a' b') ∧ ((j = 0 ∧ a' = a ∧ b' = b) ∨ (j = 1 ∧ a' = ⟨#[]⟩ ∧ b' = b ∧ a.size ≤ 65536) ∨ (j = 2 ∧ a' = ⟨#[]⟩ ∧ b' = ⟨#[]⟩ ∧ a.size ≤ 65536 ∧ b.size ≤ 65536)))
        case atStart => exact ⟨0, a, b, rfl, rfl, HG, .inl ⟨rfl, rfl, rfl⟩⟩
        case round =>
          clear HG
          obtain ⟨j, a', b', hjg, rfl, HG, hj⟩ := hrel
          have q0 := HG.out.2.2.2 0 2 rfl
          have q1 := HG.out.2.2.2 1 3 rfl
          have c2 := HG.out.1.c2
          have c3 := HG.out.1.c3
          have f2 := HG.out.1.free 2
          have f3 := HG.out.1.free 3
          have hN := HG.out.1.lt
          rcases hj with ⟨rfl, rfl, rfl⟩ | ⟨rfl, rfl, rfl, h1⟩ | ⟨rfl, rfl, rfl, h1, h2⟩
          · by_cases h1 : a'.size ≤ 65536
            · go_wp2_with (go_at_call 76; refine (iText_any _ _).mono ?_; rintro e w' ⟨rfl, rfl⟩; rw [decide_eq_true h1])
              go_roundg 1
              case measure => omega
              case rel => exact ⟨1, ⟨#[]⟩, b', rfl, by go_num, HG.out.put2 (Nat.le_refl _) _, .inr (.inl ⟨rfl, rfl, rfl, h1⟩)⟩
            · have HD := Lib.hid (show decide (rightI k n a' b') = false by rw [decide_eq_false_iff_not, HR2.out]; exact fun x => h1 x.1)
              go_wp2_with (go_at_call 76; refine (iText_any _ _).mono ?_; rintro e w' ⟨rfl, rfl⟩; rw [decide_eq_false h1])
              go_ret
              exact ⟨by rw [HD.out]; rfl, HG.out.2.1⟩
          · by_cases h2 : b'.size ≤ 65536
            · go_wp2_with (go_at_call 76; refine (iText_any _ _).mono ?_; rintro e w' ⟨rfl, rfl⟩; rw [decide_eq_true h2])
              go_roundg 0
              case measure => omega
              case rel => exact ⟨2, ⟨#[]⟩, ⟨#[]⟩, rfl, by go_num, HG.out.put3 (Nat.le_refl _) _, .inr (.inr ⟨rfl, rfl, rfl, h1, h2⟩)⟩
            · have HD := Lib.hid (show decide (rightI k n a b') = false by rw [decide_eq_false_iff_not, HR2.out]; exact fun x => h2 x.2)
              go_wp2_with (go_at_call 76; refine (iText_any _ _).mono ?_; rintro e w' ⟨rfl, rfl⟩; rw [decide_eq_false h2])
              go_ret
              exact ⟨by rw [HD.out]; rfl, HG.out.2.1⟩
          · have HD := Lib.hid (show decide (rightI k n a b) = true by rw [decide_eq_true_iff, HR2.out]; exact ⟨h1, h2⟩)
            go_wp2_with fail
            go_ret
            exact ⟨by rw [HD.out]; rfl, HG.out.2.1⟩
    · have e : offsI k n = [3] := by simp [offsI, ht, h0]
      rw [e] at hp
      obtain ⟨ad, cap, rfl, hp | ⟨B, rfl, hB1, hB2, hB3⟩⟩ := hp
      · cases hp
      · have HR2 : Hid (rightI k n a b ↔ b.size ≤ 65536 ∧ a = ⟨#[]⟩) := HR.out.trans ⟨fun x => ⟨(x.1 ht).2.1, size_nil ((x.1 ht).2.2 h0)⟩, fun x => ⟨fun _ => ⟨by rw [x.2]; decide, x.1, fun _ => by rw [x.2]; rfl⟩, fun y => by rw [ht] at y; cases y⟩⟩
        have HG : Hid (Gone w w.heap.size B [3] k n w1 a b) := ⟨HI.out.1, HI.out.2, hB2, hB3⟩
        have hlen : ([3] : List Nat).length = 1 := rfl
        rw [hlen]
        clear hB2 hB3 HI HT HK h0 ht e HR hlen HKD
        go_wp2_with fail
        go_loopg [26] 1 (fun g s26 wr => ∃ (j : Nat) (b' : ByteArray), j + g = 1 ∧ s26 = .int .i64 j ∧ Hid (Gone w w.heap.size B [3] k n wr a b') ∧ ((j = 0 ∧ b' = b) ∨ (j = 1 ∧ b' = ⟨#[]⟩ ∧ b.size ≤ 65536)))
        case atStart => exact ⟨0, b, rfl, rfl, HG, .inl ⟨rfl, rfl⟩⟩
        case round =>
          clear HG
          obtain ⟨j, b', hjg, rfl, HG, hj⟩ := hrel
          have q0 := HG.out.2.2.2 0 3 rfl
          have c2 := HG.out.1.c2
          have c3 := HG.out.1.c3
          have f3 := HG.out.1.free 3
          have hN := HG.out.1.lt
          rcases hj with ⟨rfl, rfl⟩ | ⟨rfl, rfl, h1⟩
          · by_cases h1 : b'.size ≤ 65536
            · go_wp2_with (go_at_call 76; refine (iText_any _ _).mono ?_; rintro e w' ⟨rfl, rfl⟩; rw [decide_eq_true h1])
              go_roundg 0
              case measure => omega
              case rel => exact ⟨1, ⟨#[]⟩, rfl, by go_num, HG.out.put3 (Nat.le_refl _) _, .inr ⟨rfl, rfl, h1⟩⟩
            · have HD := Lib.hid (show decide (rightI k n a b') = false by rw [decide_eq_false_iff_not, HR2.out]; exact fun x => h1 x.1)
              go_wp2_with (go_at_call 76; refine (iText_any _ _).mono ?_; rintro e w' ⟨rfl, rfl⟩; rw [decide_eq_false h1])
              go_ret
              exact ⟨by rw [HD.out]; rfl, HG.out.2.1⟩
          · have HD : Hid (decide (rightI k n a b) = a.toList.isEmpty) := decide_toList (HR2.out.trans ⟨fun x => x.2, fun x => ⟨h1, x⟩⟩)
            go_wp2_with fail
            all_goals
              go_ret
              exact ⟨by rw [HD.out]; simp [*], HG.out.2.1⟩
  · have ht : textsI k = false := by simpa using ht
    have e : offsI k n = [] := by simp [offsI, ht]
    rw [e] at hp
    obtain ⟨ad, cap, rfl, _⟩ := hp
    have HR2 : Hid (rightI k n a b ↔ a = ⟨#[]⟩ ∧ b = ⟨#[]⟩) := HR.out.trans ⟨fun x => ⟨size_nil (x.2 ht).1, size_nil (x.2 ht).2⟩, fun x => ⟨fun y => by rw [ht] at y; (cases y), fun _ => by rw [x.1, x.2]; exact ⟨rfl, rfl⟩⟩⟩
    have c2 := HI.out.1.c2
    have c3 := HI.out.1.c3
    have hlen : ([] : List Nat).length = 0 := rfl
    rw [hlen]
    clear HT HK ht e HR hlen HKD
    by_cases ha : a = ⟨#[]⟩
    · have HD : Hid (decide (rightI k n a b) = b.toList.isEmpty) := decide_toList (HR2.out.trans ⟨fun x => x.2, fun x => ⟨ha, x⟩⟩)
      have h1 : a.toList = [] := toList_nil.2 ha
      have h2 : a.toList.isEmpty = true := by rw [h1]; rfl
      clear ha
      go_wp2_with fail
      all_goals
        go_loopg [26] 0 (fun g s26 wr => s26 = .int .i64 0 ∧ wr = w1)
        case atStart => exact ⟨rfl, rfl⟩
        case round =>
          obtain ⟨rfl, rfl⟩ := hrel
          go_wp2_with fail
          all_goals
            go_ret
            exact ⟨by rw [HD.out]; simp [*], HI.out.2⟩
    · have HD : Hid (decide (rightI k n a b) = false) := decide_eq_false (fun x => ha (HR2.out.1 x).1)
      have h1 : ¬ a.toList = [] := fun x => ha (toList_nil.1 x)
      have h2 : a.toList.isEmpty = false := by simpa using h1
      clear ha
      go_wp2_with fail
      all_goals
        go_loopg [26] 0 (fun g s26 wr => s26 = .int .i64 0 ∧ wr = w1)
        case atStart => exact ⟨rfl, rfl⟩
        case round =>
          obtain ⟨rfl, rfl⟩ := hrel
          go_wp2_with fail
          all_goals
            go_ret
            exact ⟨by rw [HD.out]; simp [*], HI.out.2⟩
end Go.Proofs.YtenapfpkegoonaaDoor

/-
  Numbers in a part of a byte: plain mathematics, no function of the program is named here.
-/
namespace Go.Proofs.YtenapfpkegoonaaDoor
open Go.RowKit

/-- groups of seven bits, the lowest first, at most so many and one -/
def grpL : Nat → Int → List Int
  | 0, r => [r]
  | f + 1, r => if r < 128 then [r] else (128 + r % 128) :: grpL f (r / 128)
/-- the bytes of a number, for a prefix that holds up to m -/
def encP (m above n : Int) : List Int := if n < m then [above + n] else (above + m) :: grpL 4 (n - m)
/-- what is read behind a full prefix: 'f': so many bytes more at most -/
def decF (zs : List Int) : Nat → Nat → Int → Int → Int × Int × Int
  | 0, _, _, _ => (0, 0, 3)
  | f + 1, i, t, n =>
    if zs.length ≤ i then (0, 0, 2)
    else if 16777215 < n + t * (at0 zs i % 128) then (0, 0, 3)
    else if at0 zs i < 128 then (n + t * (at0 zs i % 128), (i : Int) + 1, 0)
    else decF zs f (i + 1) (128 * t) (n + t * (at0 zs i % 128))
/-- the number that bytes begin with, how many they are, the error -/
def decP (m : Int) (zs : List Int) : Int × Int × Int :=
  if zs.length = 0 then (0, 0, 2) else if at0 zs 0 % (m + 1) < m then (at0 zs 0 % (m + 1), 1, 0) else decF zs 4 1 1 m

theorem grpL_fit : ∀ (f : Nat) (r : Int), 0 ≤ r → r < 128 * 128 ^ f → Fit .u8 (grpL f r)
  | 0, r, h0, h1 => by
    intro n hn
    simp only [grpL, List.mem_singleton] at hn
    subst hn
    exact WalkArith.wf_u8 (by simp at h1; omega)
  | f + 1, r, h0, h1 => by
    intro n hn
    unfold grpL at hn
    split at hn
    · simp only [List.mem_singleton] at hn
      subst hn
      exact WalkArith.wf_u8 (by omega)
    · rcases List.mem_cons.1 hn with rfl | hn
      · exact WalkArith.wf_u8 (by omega)
      · refine grpL_fit f (r / 128) (by omega) ?_ n hn
        rw [Int.pow_succ] at h1
        exact Int.ediv_lt_of_lt_mul (by omega) (by rw [Int.mul_comm _ 128] at h1; rw [Int.mul_comm _ 128]; exact h1)
theorem grpL_length : ∀ (f : Nat) (r : Int), 1 ≤ (grpL f r).length ∧ (grpL f r).length ≤ f + 1
  | 0, r => by simp [grpL]
  | f + 1, r => by
    unfold grpL
    split
    · simp
    · have := grpL_length f (r / 128)
      simp; omega
theorem grpL_small {f : Nat} {r : Int} (h : r < 128) : grpL f r = [r] := by
  cases f with
  | zero => rfl
  | succ f => rw [grpL, if_pos h]
theorem grpL_great {f : Nat} {r : Int} (h : 128 ≤ r) : grpL (f + 1) r = (128 + r % 128) :: grpL f (r / 128) := by rw [grpL, if_neg (by omega)]
theorem encP_length (m above n : Int) : 1 ≤ (encP m above n).length ∧ (encP m above n).length ≤ 6 := by
  unfold encP
  split
  · simp
  · have := grpL_length 4 (n - m); simp; omega
theorem at0_app_right (xs ys : List Int) (i : Nat) : at0 (xs ++ ys) (xs.length + i) = at0 ys i := by
  simp [at0, List.getElem?_append_right]
theorem at0_app_left {xs ys : List Int} {i : Nat} (h : i < xs.length) : at0 (xs ++ ys) i = at0 xs i := by
  simp [at0, List.getElem?_append_left h]
theorem at0_zero (x : Int) (ys : List Int) : at0 (x :: ys) 0 = x := rfl

/-- there and back, behind a full prefix -/
theorem decF_grpL : ∀ (f : Nat) (pre behind : List Int) (t n r : Int), 0 ≤ r → r < 128 * 128 ^ f → 0 < t → n + t * r ≤ 16777215 →
    decF (pre ++ (grpL f r ++ behind)) (f + 1) pre.length t n = (n + t * r, (pre.length : Int) + ((grpL f r).length : Int), 0)
  | f, pre, behind, t, n, r, h0, h1, ht, hm => by
    have ha : at0 (pre ++ (grpL f r ++ behind)) pre.length = at0 (grpL f r) 0 := by
      have := at0_app_right pre (grpL f r ++ behind) 0
      rw [Nat.add_zero] at this
      rw [this, at0_app_left (grpL_length f r).1]
    have hl : ¬ (pre ++ (grpL f r ++ behind)).length ≤ pre.length := by
      have := (grpL_length f r).1
      simp; omega
    by_cases hs : r < 128
    · rw [decF, if_neg hl, ha, grpL_small hs, at0_zero, Int.emod_eq_of_lt h0 hs, if_neg (by omega), if_pos hs]
      simp
    · cases f with
      | zero => simp at h1; omega
      | succ f =>
        have hr : 0 ≤ r / 128 := by omega
        have e : t * r = t * (r % 128) + 128 * t * (r / 128) := by
          have := Int.emod_add_mul_ediv r 128
          calc t * r = t * (r % 128 + 128 * (r / 128)) := by rw [this]
            _ = _ := by rw [Int.mul_add, ← Int.mul_assoc, Int.mul_comm t 128]
        have hp : 0 ≤ 128 * t * (r / 128) := Int.mul_nonneg (by omega) hr
        have em : (128 + r % 128) % 128 = r % 128 := by omega
        rw [decF, if_neg hl, ha, grpL_great (by omega), at0_zero, em, if_neg (by omega), if_neg (by omega)]
        have ih := decF_grpL f (pre ++ [128 + r % 128]) behind (128 * t) (n + t * (r % 128)) (r / 128) hr (by
          rw [Int.pow_succ] at h1
          exact Int.ediv_lt_of_lt_mul (by omega) (by rw [Int.mul_comm _ 128] at h1; rw [Int.mul_comm _ 128]; exact h1)) (by omega) (by omega)
        simp only [List.append_assoc, List.cons_append, List.nil_append, List.length_append, List.length_cons, List.length_nil] at ih ⊢
        rw [ih]
        simp only [Prod.mk.injEq, and_true]
        constructor <;> omega
/-- cut short, behind a full prefix -/
theorem decF_cut : ∀ (f : Nat) (pre : List Int) (t n r : Int) (j : Nat), 0 ≤ r → r < 128 * 128 ^ f → 0 < t → n + t * r ≤ 16777215 → j < (grpL f r).length →
    decF (pre ++ (grpL f r).take j) (f + 1) pre.length t n = (0, 0, 2)
  | f, pre, t, n, r, 0, h0, h1, ht, hm, hj => by
    rw [decF, if_pos (by simp)]
  | f, pre, t, n, r, j + 1, h0, h1, ht, hm, hj => by
    by_cases hs : r < 128
    · rw [grpL_small hs] at hj; simp at hj
    · cases f with
      | zero => simp at h1; omega
      | succ f =>
        have hr : 0 ≤ r / 128 := by omega
        have e : t * r = t * (r % 128) + 128 * t * (r / 128) := by
          have := Int.emod_add_mul_ediv r 128
          calc t * r = t * (r % 128 + 128 * (r / 128)) := by rw [this]
            _ = _ := by rw [Int.mul_add, ← Int.mul_assoc, Int.mul_comm t 128]
        have hp : 0 ≤ 128 * t * (r / 128) := Int.mul_nonneg (by omega) hr
        have em : (128 + r % 128) % 128 = r % 128 := by omega
        rw [grpL_great (by omega)] at hj ⊢
        have ha : at0 (pre ++ ((128 + r % 128) :: grpL f (r / 128)).take (j + 1)) pre.length = 128 + r % 128 := by
          have := at0_app_right pre (((128 + r % 128) :: grpL f (r / 128)).take (j + 1)) 0
          exact this
        rw [decF, if_neg (by simp), ha, em, if_neg (by omega), if_neg (by omega)]
        have ih := decF_cut f (pre ++ [128 + r % 128]) (128 * t) (n + t * (r % 128)) (r / 128) j hr (by
          rw [Int.pow_succ] at h1
          exact Int.ediv_lt_of_lt_mul (by omega) (by rw [Int.mul_comm _ 128] at h1; rw [Int.mul_comm _ 128]; exact h1)) (by omega) (by omega) (by simpa using hj)
        simp only [List.append_assoc, List.cons_append, List.nil_append, List.length_append, List.length_cons, List.length_nil, List.take_succ_cons] at ih ⊢
        exact ih

theorem grpL_more : ∀ (f : Nat) (r : Int), 0 ≤ r → r < 128 * 128 ^ f → grpL (f + 1) r = grpL f r
  | 0, r, h0, h1 => by rw [grpL_small (by simpa using h1), grpL_small (by simpa using h1)]
  | f + 1, r, h0, h1 => by
    by_cases h : r < 128
    · rw [grpL_small h, grpL_small h]
    · rw [grpL_great (f := f + 1) (r := r) (by omega), grpL_great (f := f) (r := r) (by omega)]
      rw [grpL_more f (r / 128) (by omega) (by
        rw [Int.pow_succ] at h1
        exact Int.ediv_lt_of_lt_mul (by omega) (by rw [Int.mul_comm _ 128] at h1; rw [Int.mul_comm _ 128]; exact h1))]
theorem grpL_four (r : Int) (hr : 0 ≤ r) (hlt : r < 268435456) : grpL 4 r = grpL 3 r := grpL_more 3 r hr (by omega)
/-- there and back -/
theorem decP_encP (m above n : Int) (behind : List Int) (hm : 0 < m) (ha : above % (m + 1) = 0) (h0 : 0 ≤ n) (h1 : n ≤ 16777215) :
    decP m (encP m above n ++ behind) = (n, ((encP m above n).length : Int), 0) := by
  have mod (x : Int) (hx0 : 0 ≤ x) (hx : x < m + 1) : (above + x) % (m + 1) = x := by
    rw [Int.add_emod, ha, Int.zero_add, Int.emod_emod_of_dvd _ (Int.dvd_refl _), Int.emod_eq_of_lt hx0 hx]
  unfold decP encP
  by_cases hn : n < m
  · rw [if_pos hn, if_neg (by simp), List.cons_append, at0_zero, mod n h0 (by omega), if_pos hn]
    simp
  · rw [if_neg hn, if_neg (by simp), List.cons_append, at0_zero, mod m (by omega) (by omega), if_neg (by omega)]
    have := decF_grpL 3 [above + m] behind 1 m (n - m) (by omega) (by omega) (by omega) (by omega)
    have e : grpL 4 (n - m) = grpL 3 (n - m) := grpL_four _ (by omega) (by omega)
    rw [e]
    simp only [List.length_cons, List.length_nil, List.cons_append, List.nil_append, Nat.zero_add] at this ⊢
    rw [this]
    simp only [Prod.mk.injEq, and_true]
    constructor <;> omega
theorem encP_five (m above n : Int) (hm : 0 < m) (h0 : 0 ≤ n) (h1 : n ≤ 16777215) : (encP m above n).length ≤ 5 := by
  unfold encP
  split
  · simp
  · rw [grpL_four _ (by omega) (by omega)]
    have := grpL_length 3 (n - m)
    simp; omega
/-- cut short -/
theorem decP_cut (m above n : Int) (j : Nat) (hm : 0 < m) (ha : above % (m + 1) = 0) (h0 : 0 ≤ n) (h1 : n ≤ 16777215) (hj : j < (encP m above n).length) :
    decP m ((encP m above n).take j) = (0, 0, 2) := by
  have mod (x : Int) (hx0 : 0 ≤ x) (hx : x < m + 1) : (above + x) % (m + 1) = x := by
    rw [Int.add_emod, ha, Int.zero_add, Int.emod_emod_of_dvd _ (Int.dvd_refl _), Int.emod_eq_of_lt hx0 hx]
  cases j with
  | zero => simp [decP]
  | succ j =>
    unfold encP at hj ⊢
    by_cases hn : n < m
    · rw [if_pos hn] at hj; simp at hj
    · rw [if_neg hn] at hj ⊢
      rw [grpL_four _ (by omega) (by omega)] at hj ⊢
      rw [List.take_succ_cons]
      unfold decP
      rw [if_neg (by simp), at0_zero, mod m (by omega) (by omega), if_neg (by omega)]
      have := decF_cut 3 [above + m] 1 m (n - m) j (by omega) (by omega) (by omega) (by omega) (by simpa using hj)
      simpa using this
theorem encP_inj {m above n n' : Int} (hm : 0 < m) (ha : above % (m + 1) = 0) (h0 : 0 ≤ n) (h1 : n ≤ 16777215) (h0' : 0 ≤ n') (h1' : n' ≤ 16777215) : encP m above n = encP m above n' ↔ n = n' := by
  constructor
  · intro e
    have a := decP_encP m above n [] hm ha h0 h1
    have b := decP_encP m above n' [] hm ha h0' h1'
    rw [e] at a
    rw [a] at b
    exact (Prod.mk.inj b).1
  · rintro rfl; rfl
theorem encP_fit (m above n : Int) (hm : 0 < m) (ha0 : 0 ≤ above) (ha1 : above + m ≤ 255) (h0 : 0 ≤ n) (h1 : n ≤ 16777215) : Fit .u8 (encP m above n) := by
  intro x hx
  unfold encP at hx
  split at hx
  · simp only [List.mem_singleton] at hx
    subst hx
    exact WalkArith.wf_u8 (by omega)
  · rcases List.mem_cons.1 hx with rfl | hx
    · exact WalkArith.wf_u8 (by omega)
    · exact grpL_fit 4 (n - m) (by omega) (by omega) x hx
end Go.Proofs.YtenapfpkegoonaaDoor

/-
  What the small calls of package prefix do, and the document's own power of two, a contract each.
-/
namespace Go.Proofs.YtenapfpkegoonaaDoor
open Go.RowKit

/-- what a prefix of so many bits holds at most -/
def fullP (bits : Int) : Int := 2 ^ bits.toNat - 1
theorem bits_cases {b : Int} (h1 : 1 ≤ b) (h8 : b ≤ 8) : b = 1 ∨ b = 2 ∨ b = 3 ∨ b = 4 ∨ b = 5 ∨ b = 6 ∨ b = 7 ∨ b = 8 := by omega
theorem fullP_bound {b : Int} (h1 : 1 ≤ b) (h8 : b ≤ 8) : 1 ≤ fullP b ∧ fullP b ≤ 255 := by
  rcases bits_cases h1 h8 with rfl | rfl | rfl | rfl | rfl | rfl | rfl | rfl <;> decide

theorem full_any (b : Int) (w : World) (h1 : 1 ≤ b) (h8 : b ≤ 8) :
    Calls Tryd.prog 80 #[.int .i64 b] w fun e w' => e = .returned (.int .i64 (fullP b)) ∧ w = w' := by
  rcases bits_cases h1 h8 with rfl | rfl | rfl | rfl | rfl | rfl | rfl | rfl <;>
  · clear h1 h8
    go_enter Tryd.func80, Tryd.ntmps80
    go_wp2
    go_ret
    exact ⟨rfl, rfl⟩

theorem isPrefix_any (b : Int) (w : World) :
    Calls Tryd.prog 78 #[.int .i64 b] w fun e w' => e = .returned (.bool (decide (1 ≤ b ∧ b ≤ 8))) ∧ w = w' := by
  by_cases h0 : 1 ≤ b
  · have d1 : decide (1 ≤ b) = true := decide_eq_true h0
    have HD := Lib.hid (show decide (1 ≤ b ∧ b ≤ 8) = decide (b ≤ 8) by simp [h0])
    clear h0
    go_enter Tryd.func78, Tryd.ntmps78
    go_wp2
    go_ret
    exact ⟨by rw [HD.out]; rfl, rfl⟩
  · have d1 : decide (1 ≤ b) = false := decide_eq_false h0
    have HD := Lib.hid (show decide (1 ≤ b ∧ b ≤ 8) = false by simp [h0])
    clear h0
    go_enter Tryd.func78, Tryd.ntmps78
    go_wp2
    go_ret
    exact ⟨by rw [HD.out]; rfl, rfl⟩
theorem isNumber_any (b : Int) (w : World) :
    Calls Tryd.prog 77 #[.int .i64 b] w fun e w' => e = .returned (.bool (decide (0 ≤ b ∧ b ≤ 16777215))) ∧ w = w' := by
  by_cases h0 : 0 ≤ b
  · have d1 : decide (0 ≤ b) = true := decide_eq_true h0
    have HD := Lib.hid (show decide (0 ≤ b ∧ b ≤ 16777215) = decide (b ≤ 16777215) by simp [h0])
    clear h0
    go_enter Tryd.func77, Tryd.ntmps77
    go_wp2
    go_ret
    exact ⟨by rw [HD.out]; rfl, rfl⟩
  · have d1 : decide (0 ≤ b) = false := decide_eq_false h0
    have HD := Lib.hid (show decide (0 ≤ b ∧ b ≤ 16777215) = false by simp [h0])
    clear h0
    go_enter Tryd.func77, Tryd.ntmps77
    go_wp2
    go_ret
    exact ⟨by rw [HD.out]; rfl, rfl⟩
theorem isAbove_any (a b : Int) (w : World) (h1 : 1 ≤ b) (h8 : b ≤ 8) :
    Calls Tryd.prog 79 #[.int .i64 a, .int .i64 b] w fun e w' => e = .returned (.bool (decide (0 ≤ a ∧ a ≤ 255 ∧ a % (fullP b + 1) = 0))) ∧ w = w' := by
  by_cases h0 : 0 ≤ a
  · have d1 : decide (0 ≤ a) = true := decide_eq_true h0
    by_cases h2 : a ≤ 255
    · have d2 : decide (a ≤ 255) = true := decide_eq_true h2
      rcases bits_cases h1 h8 with rfl | rfl | rfl | rfl | rfl | rfl | rfl | rfl <;>
      · clear h1 h8
        simp only [fullP, Int.reduceToNat, Int.reducePow, Int.reduceSub, Int.reduceAdd]
        go_enter Tryd.func79, Tryd.ntmps79
        go_wp2
        go_ret
        exact ⟨by simp [h0, h2]; rfl, rfl⟩
    · have d2 : decide (a ≤ 255) = false := decide_eq_false h2
      have HD := Lib.hid (show decide (0 ≤ a ∧ a ≤ 255 ∧ a % (fullP b + 1) = 0) = false by simp [h2])
      clear h0 h2
      go_enter Tryd.func79, Tryd.ntmps79
      go_wp2
      go_ret
      exact ⟨by rw [HD.out]; rfl, rfl⟩
  · have d1 : decide (0 ≤ a) = false := decide_eq_false h0
    have HD := Lib.hid (show decide (0 ≤ a ∧ a ≤ 255 ∧ a % (fullP b + 1) = 0) = false by simp [h0])
    clear h0
    go_enter Tryd.func79, Tryd.ntmps79
    go_wp2
    go_ret
    exact ⟨by rw [HD.out]; rfl, rfl⟩

end Go.Proofs.YtenapfpkegoonaaDoor

/-
  What the document's own answer Same of layer 1 does: whether two rows of bytes are the same.
-/
namespace Go.Proofs.YtenapfpkegoonaaDoor
open Go.RowKit

theorem Tryd.info5' : (Tryd.prog.info? 5).map (fun i => (i.zero, i.size, i.bytes)) = some (some (.int .u8 0), 1, 1) := by kernel_rfl

theorem Tryd.slice22 : Tryd.prog.underlying 30 = some (.slice (Tryd.prog.elem 30)) := by kernel_rfl
theorem Tryd.size22 (w : World) : (sizeOf (Tryd.prog.elem 30)).run Tryd.prog w = .ok 1 w := by kernel_rfl

theorem same_any (u v : Value) (xs ys : List Int) (w : World) (hu : Sl .u8 w u xs) (hv : Sl .u8 w v ys) :
    Calls Tryd.prog 18 #[u, v] w fun e w' => e = .returned (.bool (decide (xs = ys))) ∧ ∃ n, w' = w.drewN n := by
  have hmx := hu.len
  have hmy := hv.len
  unfold maxLen at hmx hmy
  by_cases hl : xs.length = ys.length
  · rcases hu.parts with ⟨rfl, a, cap, rfl⟩ | ⟨hp, b, off, cap, rfl, hlc, hcm, hb, hc⟩
    · obtain rfl : ys = [] := List.eq_nil_of_length_eq_zero (by simpa using hl.symm)
      obtain ⟨a2, cap2, rfl, _⟩ := hv
      clear hl hu
      go_enter Tryd.func18, Tryd.ntmps18
      go_wp2
      refine wp_loop_rounds 1 ?_
      rw [rounds_succ]
      go_wp2
      go_ret
      exact ⟨rfl, 0, rfl⟩
    · rcases hv.parts with ⟨rfl, _⟩ | ⟨hp2, b2, off2, cap2, rfl, hlc2, hcm2, hb2, hc2⟩
      · exact absurd hl (by rw [List.length_nil]; omega)
      · have hle : xs.length ≤ ys.length := by omega
        have hge : ys.length ≤ xs.length := by omega
        have hn : ((xs.length : Int) != (ys.length : Int)) = false := by simp; omega
        clear hl hu hv
        go_enter Tryd.func18, Tryd.ntmps18
        go_wp2
        clear hn
        go_loopw [5] (fun i wr => ∃ k n : Nat, k ≤ xs.length ∧ i = .int .i64 k ∧ Hid (xs.take k = ys.take k) ∧ wr = w.drewN n) (fun i _ => xs.length - (intOf i).toNat)
        case atStart => exact ⟨0, 0, Nat.zero_le _, rfl, rfl, rfl⟩
        case round =>
          obtain ⟨k, n, hk, rfl, HT, rfl⟩ := hrel
          by_cases hlt : k < xs.length
          · have hcx := hc k hlt
            have hcy := hc2 k (by omega)
            clear hc hc2
            by_cases hz : at0 xs k = at0 ys k
            · have hb : (at0 xs k != at0 ys k) = false := by simp [hz]
              have HZ := Lib.hid hz
              clear hz
              go_wp2
              go_quiet (fail)
              go_wp2
              go_roundw
              case rel => exact ⟨k + 1, _, by omega, by go_num, (by show _ = _; rw [take_at0 xs k hlt, take_at0 ys k (by omega), HT.out, HZ.out]), rfl⟩
              case measure => simp [intOf]; omega
            · have hb : (at0 xs k != at0 ys k) = true := by simp [hz]
              have hne : xs ≠ ys := fun e => hz (by rw [e])
              have HD := Lib.hid (decide_eq_false hne)
              clear hz hne
              go_wp2
              go_quiet (fail)
              go_wp2
              go_ret
              exact ⟨by rw [HD.out]; rfl, _, by first | rfl | exact World.drewN_drewN ..⟩
          · obtain rfl : k = xs.length := by omega
            have he : xs = ys := by
              have := HT.out
              rwa [List.take_length, List.take_of_length_le (by omega)] at this
            have HD := Lib.hid (decide_eq_true he)
            clear he
            go_wp2
            go_ret
            exact ⟨by rw [HD.out]; rfl, _, by first | rfl | exact World.drewN_drewN ..⟩
  · have hn : ((xs.length : Int) != (ys.length : Int)) = true := by simp; omega
    have hne : xs ≠ ys := fun e => hl (by rw [e])
    have HD := Lib.hid (decide_eq_false hne)
    clear hne hl
    obtain ⟨a, cap, rfl, _⟩ := hu
    obtain ⟨a2, cap2, rfl, _⟩ := hv
    go_enter Tryd.func18, Tryd.ntmps18
    go_wp2
    go_ret
    exact ⟨by rw [HD.out]; rfl, 0, rfl⟩

end Go.Proofs.YtenapfpkegoonaaDoor

/-
  prefix.Encode.
-/
namespace Go.Proofs.YtenapfpkegoonaaDoor
open Go.RowKit

/-- there are such a number, such a prefix, and such bits above it -/
def encOk (n b a : Int) : Prop := (0 ≤ n ∧ n ≤ 16777215) ∧ (1 ≤ b ∧ b ≤ 8) ∧ (0 ≤ a ∧ a ≤ 255 ∧ a % (fullP b + 1) = 0)
instance (n b a : Int) : Decidable (encOk n b a) := by unfold encOk; infer_instance
theorem above_bound {a b : Int} (h1 : 1 ≤ b) (h8 : b ≤ 8) (h2 : a ≤ 255) (h : a % (fullP b + 1) = 0) : a + fullP b ≤ 255 := by
  rcases bits_cases h1 h8 with rfl | rfl | rfl | rfl | rfl | rfl | rfl | rfl <;> (simp only [fullP, Int.reduceToNat, Int.reducePow, Int.reduceSub, Int.reduceAdd] at h ⊢; omega)
theorem encOk.fit {n b a : Int} (h : encOk n b a) : Fit .u8 (encP (fullP b) a n) :=
  encP_fit _ _ _ (by have := fullP_bound h.2.1.1 h.2.1.2; omega) h.2.2.1 (above_bound h.2.1.1 h.2.1.2 h.2.2.2.1 h.2.2.2.2) h.1.1 h.1.2

theorem prefEnc_no (n b a : Int) (w : World) (h : ¬ encOk n b a) :
    Calls Tryd.prog 53 #[.int .i64 n, .int .i64 b, .int .i64 a] w fun e w' => e = .returned (.tuple #[.slice none 0 0, .int .i64 1]) ∧ w = w' := by
  by_cases h1 : 0 ≤ n ∧ n ≤ 16777215
  · by_cases h2 : 1 ≤ b ∧ b ≤ 8
    · have h3 : ¬ (0 ≤ a ∧ a ≤ 255 ∧ a % (fullP b + 1) = 0) := fun h3 => h ⟨h1, h2, h3⟩
      have D1 := Lib.hid (decide_eq_true h1)
      have D2 := Lib.hid (decide_eq_true h2)
      have D3 := Lib.hid (decide_eq_false h3)
      obtain ⟨b1, b8⟩ := h2
      clear h h1 h3
      go_enter Tryd.func53, Tryd.ntmps53
      go_wp2_with (first
        | (go_at_call 77; refine (isNumber_any _ _).mono ?_; rintro e w' ⟨rfl, rfl⟩; rw [D1.out])
        | (go_at_call 78; refine (isPrefix_any _ _).mono ?_; rintro e w' ⟨rfl, rfl⟩; rw [D2.out])
        | (go_at_call 79; refine (isAbove_any _ _ _ (by omega) (by omega)).mono ?_; rintro e w' ⟨rfl, rfl⟩; rw [D3.out]))
      go_ret2
      exact ⟨rfl, rfl⟩
    · have D1 := Lib.hid (decide_eq_true h1)
      have D2 := Lib.hid (decide_eq_false h2)
      clear h h1 h2
      go_enter Tryd.func53, Tryd.ntmps53
      go_wp2_with (first
        | (go_at_call 77; refine (isNumber_any _ _).mono ?_; rintro e w' ⟨rfl, rfl⟩; rw [D1.out])
        | (go_at_call 78; refine (isPrefix_any _ _).mono ?_; rintro e w' ⟨rfl, rfl⟩; rw [D2.out]))
      go_ret2
      exact ⟨rfl, rfl⟩
  · have D1 := Lib.hid (decide_eq_false h1)
    clear h h1
    go_enter Tryd.func53, Tryd.ntmps53
    go_wp2_with (go_at_call 77; refine (isNumber_any _ _).mono ?_; rintro e w' ⟨rfl, rfl⟩; rw [D1.out])
    go_ret2
    exact ⟨rfl, rfl⟩

theorem prefEnc_own (n b a : Int) (w : World) (h : encOk n b a) :
    Calls Tryd.prog 53 #[.int .i64 n, .int .i64 b, .int .i64 a] w fun e w' => ∃ v, e = .returned (.tuple #[v, .int .i64 0]) ∧ w'.ownsRow w.heap.size 5 1 v (encP (fullP b) a n).length ((encP (fullP b) a n).map (Value.int .u8)) ∧ Below w.heap.size w w' := by
  obtain ⟨h1, h2, h3⟩ := h
  have hab := above_bound h2.1 h2.2 h3.2.1 h3.2.2
  have D1 := Lib.hid (decide_eq_true h1)
  have D2 := Lib.hid (decide_eq_true h2)
  have D3 := Lib.hid (decide_eq_true h3)
  have hm := fullP_bound h2.1 h2.2
  obtain ⟨b1, b8⟩ := h2
  obtain ⟨n0, n1⟩ := h1
  have a0 := h3.1
  clear h3
  obtain ⟨m, hM⟩ : ∃ m, fullP b = m := ⟨_, rfl⟩
  have HM := Lib.hid hM
  rw [hM] at hab hm ⊢
  have D3' : Hid (decide (0 ≤ a ∧ a ≤ 255 ∧ a % (fullP b + 1) = 0) = true) := D3
  clear D3 hM
  by_cases hlt : n < m
  · have HE := Lib.hid (show encP m a n = [a + n] by rw [encP, if_pos hlt])
    go_enter Tryd.func53, Tryd.ntmps53
    go_wp2_with (first
        | (go_at_call 77; refine (isNumber_any _ _).mono ?_; rintro e w' ⟨rfl, rfl⟩; rw [D1.out])
        | (go_at_call 78; refine (isPrefix_any _ _).mono ?_; rintro e w' ⟨rfl, rfl⟩; rw [D2.out])
        | (go_at_call 80; refine (full_any _ _ (by omega) (by omega)).mono ?_; rintro e w' ⟨rfl, rfl⟩; rw [HM.out])
        | (go_at_call 79; refine (isAbove_any _ _ _ (by omega) (by omega)).mono ?_; rintro e w' ⟨rfl, rfl⟩; rw [D3'.out]))
    go_ret2
    rw [HE.out]
    exact ⟨_, rfl, owned_lit [a + n] (Nat.le_refl _) rfl rfl rfl (by simp [maxLen]), (Below.refl _ _).alloc (Nat.le_refl _) _⟩
  · have HE := Lib.hid (show encP m a n = [a + m] ++ grpL 4 (n - m) by rw [encP, if_neg hlt]; rfl)
    go_enter Tryd.func53, Tryd.ntmps53
    go_wp2_with (first
        | (go_at_call 77; refine (isNumber_any _ _).mono ?_; rintro e w' ⟨rfl, rfl⟩; rw [D1.out])
        | (go_at_call 78; refine (isPrefix_any _ _).mono ?_; rintro e w' ⟨rfl, rfl⟩; rw [D2.out])
        | (go_at_call 80; refine (full_any _ _ (by omega) (by omega)).mono ?_; rintro e w' ⟨rfl, rfl⟩; rw [HM.out])
        | (go_at_call 79; refine (isAbove_any _ _ _ (by omega) (by omega)).mono ?_; rintro e w' ⟨rfl, rfl⟩; rw [D3'.out]))
    all_goals
      go_loopw [9, 10] (fun v u wr => ∃ (out : List Int) (f : Nat) (r : Int), u = .int .i64 r ∧ wr.ownsRow w.heap.size 5 1 v out.length (out.map (Value.int .u8)) ∧ Hid (out ++ grpL f r = encP m a n) ∧ Hid (r < 128 * 128 ^ f) ∧ 0 ≤ r ∧ r ≤ 16777215 ∧ out.length + f ≤ 5 ∧ Below w.heap.size w wr) (fun _ u _ => (intOf u).toNat)
      case atStart =>
        refine ⟨[a + m], 4, n - m, ?_, ?_, HE.out.symm, (by show n - m < 128 * 128 ^ 4; omega), by omega, by omega, by simp, (Below.refl _ _).alloc (Nat.le_refl _) _⟩
        · first | rfl | (congr 1; omega)
        · have h0 : (w.alloc (.cells #[.int .u8 (a + m)] 5)).ownsRow w.heap.size 5 1 (.slice (some ⟨w.heap.size, 0, none⟩) 1 1) 1 ([a + m].map (Value.int .u8)) := owned_lit [a + m] (Nat.le_refl w.heap.size) rfl rfl rfl (by simp [maxLen])
          first | exact h0 | (have e : n = m := (by omega); subst e; exact h0)
      case round =>
        obtain ⟨out, f, r, rfl, hO, HQ, HR, r0, r1, hl, hB⟩ := hrel
        obtain ⟨ao, cap, rfl, _⟩ := owned_shape hO
        by_cases hr : r < 128
        · have d1 : decide (128 ≤ r) = false := decide_eq_false (by omega)
          have HG := Lib.hid (grpL_small (f := f) hr)
          have hz := hB.size
          go_wp2_with (at_builtin; refine app_ints rfl (.tmp 53) (.tmp 56) 30 rfl w.heap.size 5 .u8 1 Tryd.underlying30 Tryd.info5' _ out.length out rfl (hO.alloc _) _ [r] rfl (Sl.lit' [r] rfl rfl rfl (by intro z hz; rw [List.mem_singleton] at hz; subst hz; exact WalkArith.wf_u8 (by omega)) (by simp [maxLen])) (by simp; omega) (by simp [maxLen]; omega) (by simp; omega) ?_; intro v4 w4 hO4 hc4 hg4)
          go_ret2
          rw [← HQ.out, HG.out]
          exact ⟨_, rfl, by simpa using hO4, (hB.alloc hz _).trans hc4⟩
        · have d1 : decide (128 ≤ r) = true := decide_eq_true (by omega)
          obtain ⟨f, rfl⟩ : ∃ g, f = g + 1 := by
            cases f with
            | zero => have := HR.out; simp at this; omega
            | succ g => exact ⟨g, rfl⟩
          have HG := Lib.hid (grpL_great (f := f) (r := r) (by omega))
          have hz := hB.size
          go_wp2_with (at_builtin; refine app_ints rfl (.tmp 46) (.tmp 51) 30 rfl w.heap.size 5 .u8 1 Tryd.underlying30 Tryd.info5' _ out.length out rfl (hO.alloc _) _ [r % 128 + 128] rfl (Sl.lit' [r % 128 + 128] rfl rfl rfl (by intro z hz; rw [List.mem_singleton] at hz; subst hz; exact WalkArith.wf_u8 (by omega)) (by simp [maxLen])) (by simp; omega) (by simp [maxLen]; omega) (by simp; omega) ?_; intro v4 w4 hO4 hc4 hg4)
          go_roundw
          case rel =>
            refine ⟨out ++ [r % 128 + 128], f, r / 128, rfl, by simpa using hO4, ?_, ?_, by omega, by omega, by simp; omega, (hB.alloc hz _).trans hc4⟩
            · show _ = _
              rw [← HQ.out, HG.out, Int.add_comm]
              simp
            · show _ < _
              have h1 := HR.out
              rw [Int.pow_succ] at h1
              exact Int.ediv_lt_of_lt_mul (by omega) (by rw [Int.mul_comm _ 128] at h1; rw [Int.mul_comm _ 128]; exact h1)
          case measure => simp [intOf]; omega

end Go.Proofs.YtenapfpkegoonaaDoor

/-
  Go's bit operations on int, at numbers that are not negative: plain mathematics, no program is named here.
-/
namespace Go.Proofs.YtenapfpkegoonaaDoor
open Go.RowKit

theorem wrap_i64_small {n : Int} (h1 : 0 ≤ n) (h2 : n < 9223372036854775808) : IntKind.i64.wrap n = n := by
  simp [IntKind.wrap, IntKind.bits, IntKind.signed]; omega
theorem i64_or (a b : Int) (h1 : 0 ≤ a) (h2 : a < 9223372036854775808) (h3 : 0 ≤ b) (h4 : b < 9223372036854775808) : bits .or .i64 a b = ((a.toNat ||| b.toNat : Nat) : Int) := by
  obtain ⟨A, rfl⟩ := Int.eq_ofNat_of_zero_le h1
  obtain ⟨B, rfl⟩ := Int.eq_ofNat_of_zero_le h3
  have hx : A ||| B < 2 ^ 63 := Nat.or_lt_two_pow (by omega) (by omega)
  show IntKind.i64.wrap ((BitVec.ofInt 64 (A : Int) ||| BitVec.ofInt 64 (B : Int)).toNat : Int) = _
  rw [BitVec.toNat_or, ofInt_u64 A (by omega), ofInt_u64 B (by omega), wrap_i64_small (by omega) (by omega)]
  simp
theorem i64_and (a b : Int) (h1 : 0 ≤ a) (h2 : a < 9223372036854775808) (h3 : 0 ≤ b) (h4 : b < 9223372036854775808) : bits .and .i64 a b = ((a.toNat &&& b.toNat : Nat) : Int) := by
  obtain ⟨A, rfl⟩ := Int.eq_ofNat_of_zero_le h1
  obtain ⟨B, rfl⟩ := Int.eq_ofNat_of_zero_le h3
  have hx : A &&& B < 2 ^ 63 := Nat.and_lt_two_pow _ (by omega)
  show IntKind.i64.wrap ((BitVec.ofInt 64 (A : Int) &&& BitVec.ofInt 64 (B : Int)).toNat : Int) = _
  rw [BitVec.toNat_and, ofInt_u64 A (by omega), ofInt_u64 B (by omega), wrap_i64_small (by omega) (by omega)]
  simp
/-- what is joined by 'or' to a number that ends in so many zeros is added -/
theorem i64_join (i : Nat) (x y : Int) (h1 : 0 ≤ x) (h2 : x < 9223372036854775808) (hx : x % 2 ^ i = 0) (h3 : 0 ≤ y) (h4 : y < 2 ^ i) (h5 : y < 9223372036854775808) : bits .or .i64 x y = x + y := by
  rw [i64_or x y h1 h2 h3 h5]
  obtain ⟨A, rfl⟩ := Int.eq_ofNat_of_zero_le h1
  obtain ⟨B, rfl⟩ := Int.eq_ofNat_of_zero_le h3
  simp only [Int.toNat_natCast]
  rw [nat_join i A B (by exact_mod_cast hx) (by exact_mod_cast h4)]
  simp
/-- a byte joined below -/
theorem or_byte (m z : Int) (h1 : 0 ≤ m) (h2 : m < 36028797018963968) (h3 : 0 ≤ z) (h4 : z ≤ 255) : bits .or .i64 (m * 256) z = 256 * m + z := by
  rw [i64_join 8 (m * 256) z (by omega) (by omega) (by omega) h3 (by omega) (by omega)]
  omega

end Go.Proofs.YtenapfpkegoonaaDoor

/-
  prefix.Decode.
-/
namespace Go.Proofs.YtenapfpkegoonaaDoor
open Go.RowKit

/-- what Decode answers, whatever it is given -/
def decA (b : Int) (zs : List Int) : Int × Int × Int := if 1 ≤ b ∧ b ≤ 8 then decP (fullP b) zs else (0, 0, 1)
/-- the answer as a value -/
def tup3 (d : Int × Int × Int) : Value := .tuple #[.int .i64 d.1, .int .i64 d.2.1, .int .i64 d.2.2]
theorem ret_tup3 {d : Int × Int × Int} {x y z : Int} (h : (x, y, z) = d) : Ending.returned (.tuple #[.int .i64 x, .int .i64 y, .int .i64 z]) = .returned (tup3 d) := by subst h; rfl
theorem i64_mask (b z : Int) (h1 : 1 ≤ b) (h8 : b ≤ 8) (h0 : 0 ≤ z) (hz : z ≤ 255) : bits .and .i64 z (fullP b) = z % (fullP b + 1) := by
  have hm := fullP_bound h1 h8
  rw [i64_and z (fullP b) h0 (by omega) (by omega) (by omega)]
  obtain ⟨Z, rfl⟩ := Int.eq_ofNat_of_zero_le h0
  rcases bits_cases h1 h8 with rfl | rfl | rfl | rfl | rfl | rfl | rfl | rfl
  · rw [show (fullP 1).toNat = 2 ^ 1 - 1 from rfl, Int.toNat_natCast, Nat.and_two_pow_sub_one_eq_mod]; rfl
  · rw [show (fullP 2).toNat = 2 ^ 2 - 1 from rfl, Int.toNat_natCast, Nat.and_two_pow_sub_one_eq_mod]; rfl
  · rw [show (fullP 3).toNat = 2 ^ 3 - 1 from rfl, Int.toNat_natCast, Nat.and_two_pow_sub_one_eq_mod]; rfl
  · rw [show (fullP 4).toNat = 2 ^ 4 - 1 from rfl, Int.toNat_natCast, Nat.and_two_pow_sub_one_eq_mod]; rfl
  · rw [show (fullP 5).toNat = 2 ^ 5 - 1 from rfl, Int.toNat_natCast, Nat.and_two_pow_sub_one_eq_mod]; rfl
  · rw [show (fullP 6).toNat = 2 ^ 6 - 1 from rfl, Int.toNat_natCast, Nat.and_two_pow_sub_one_eq_mod]; rfl
  · rw [show (fullP 7).toNat = 2 ^ 7 - 1 from rfl, Int.toNat_natCast, Nat.and_two_pow_sub_one_eq_mod]; rfl
  · rw [show (fullP 8).toNat = 2 ^ 8 - 1 from rfl, Int.toNat_natCast, Nat.and_two_pow_sub_one_eq_mod]; rfl

theorem decF_end {zs : List Int} {f i : Nat} {t n : Int} (h : zs.length ≤ i) : decF zs (f + 1) i t n = (0, 0, 2) := by rw [decF, if_pos h]
theorem decF_over {zs : List Int} {f i : Nat} {t n : Int} (h : i < zs.length) (h2 : 16777215 < n + t * (at0 zs i % 128)) : decF zs (f + 1) i t n = (0, 0, 3) := by rw [decF, if_neg (by omega), if_pos h2]
theorem decF_last {zs : List Int} {f i : Nat} {t n : Int} (h : i < zs.length) (h2 : n + t * (at0 zs i % 128) ≤ 16777215) (h3 : at0 zs i < 128) : decF zs (f + 1) i t n = (n + t * (at0 zs i % 128), (i : Int) + 1, 0) := by rw [decF, if_neg (by omega), if_neg (by omega), if_pos h3]
theorem decF_go {zs : List Int} {f i : Nat} {t n : Int} (h : i < zs.length) (h2 : n + t * (at0 zs i % 128) ≤ 16777215) (h3 : 128 ≤ at0 zs i) : decF zs (f + 1) i t n = decF zs f (i + 1) (128 * t) (n + t * (at0 zs i % 128)) := by rw [decF, if_neg (by omega), if_neg (by omega), if_neg (by omega)]

theorem prefDec_no (v : Value) (b : Int) (w : World) (h : ¬ (1 ≤ b ∧ b ≤ 8)) :
    Calls Tryd.prog 66 #[v, .int .i64 b] w fun e w' => e = .returned (tup3 (0, 0, 1)) ∧ w = w' := by
  have D2 := Lib.hid (decide_eq_false h)
  clear h
  go_enter Tryd.func66, Tryd.ntmps66
  go_wp2_with fail
  go_step3
  go_wp2_with (go_at_call 78; refine (isPrefix_any _ _).mono ?_; rintro e w' ⟨rfl, rfl⟩; rw [D2.out])
  rw [Exit.noGoto_ret]
  go_ret3
  exact ⟨rfl, rfl⟩

theorem prefDec_yes (v : Value) (zs : List Int) (b : Int) (w : World) (hv : Sl .u8 w v zs) (h : 1 ≤ b ∧ b ≤ 8) :
    Calls Tryd.prog 66 #[v, .int .i64 b] w fun e w' => e = .returned (tup3 (decP (fullP b) zs)) ∧ ∃ n, w' = w.drewN n := by
  have D2 := Lib.hid (decide_eq_true h)
  obtain ⟨b1, b8⟩ := h
  have hmax := hv.len
  unfold maxLen at hmax
  rcases hv.parts with ⟨rfl, a, cap, rfl⟩ | ⟨hp, blk, off, cap, rfl, hlc, hcm, hb, hc⟩
  · clear hv
    go_enter Tryd.func66, Tryd.ntmps66
    go_wp2_with fail
    go_step3
    go_wp2_with (go_at_call 78; refine (isPrefix_any _ _).mono ?_; rintro e w' ⟨rfl, rfl⟩; rw [D2.out])
    rw [Exit.noGoto_ret]
    go_ret3
    exact ⟨rfl, 0, rfl⟩
  · have hz := hv.fit.byte 0
    have hm := fullP_bound b1 b8
    have hmask := i64_mask b (at0 zs 0) b1 b8 hz.1 hz.2
    have hfit := hv.fit
    have hc0 := hc 0 hp
    rw [Nat.add_zero] at hc0
    clear hv
    obtain ⟨m, hM⟩ : ∃ m, fullP b = m := ⟨_, rfl⟩
    have HM := Lib.hid hM
    rw [hM] at hm hmask ⊢
    have HK := Lib.hid hmask
    clear hM hmask
    have hne : ((zs.length : Int) == 0) = false := by simp; intro e; subst e; simp at hp
    have hq0 : 0 ≤ at0 zs 0 % (m + 1) := Int.emod_nonneg _ (by omega)
    have hq1 : at0 zs 0 % (m + 1) < m + 1 := Int.emod_lt_of_pos _ (by omega)
    by_cases hlt : at0 zs 0 % (m + 1) < m
    · have HD := Lib.hid (show decP m zs = (at0 zs 0 % (m + 1), 1, 0) by rw [decP, if_neg (by simp; intro e; subst e; simp at hp), if_pos hlt])
      obtain ⟨q, hq⟩ : ∃ q, at0 zs 0 % (m + 1) = q := ⟨_, rfl⟩
      rw [hq] at hlt hq0 hq1 HD
      have HQ := Lib.hid hq
      clear hq hc
      go_enter Tryd.func66, Tryd.ntmps66
      go_wp2_with fail
      go_step3
      go_wp2_with (go_at_call 78; refine (isPrefix_any _ _).mono ?_; rintro e w' ⟨rfl, rfl⟩; rw [D2.out])
      go_quiet ((go_at_call 80; exact Calls.quiet_of_same ((full_any _ _ (by omega) (by omega)).mono (fun e w' h => ⟨h.1, h.2.symm⟩))))
      rw [HM.out, HK.out, HQ.out]
      go_wp2_with (go_at_call 80; refine (full_any _ _ (by omega) (by omega)).mono ?_; rintro e w' ⟨rfl, rfl⟩; rw [HM.out])
      rw [Exit.noGoto_ret]
      go_ret3
      exact ⟨by rw [HD.out]; rfl, _, rfl⟩
    · have HD := Lib.hid (show decP m zs = decF zs 4 1 1 m by rw [decP, if_neg (by simp; intro e; subst e; simp at hp), if_neg hlt])
      have HQ := Lib.hid (show at0 zs 0 % (m + 1) = m by omega)
      clear hlt hq0 hq1
      go_enter Tryd.func66, Tryd.ntmps66
      go_wp2_with fail
      go_step3
      go_wp2_with (go_at_call 78; refine (isPrefix_any _ _).mono ?_; rintro e w' ⟨rfl, rfl⟩; rw [D2.out])
      go_quiet ((go_at_call 80; exact Calls.quiet_of_same ((full_any _ _ (by omega) (by omega)).mono (fun e w' h => ⟨h.1, h.2.symm⟩))))
      rw [HM.out, HK.out, HQ.out]
      go_wp2_with (go_at_call 80; refine (full_any _ _ (by omega) (by omega)).mono ?_; rintro e w' ⟨rfl, rfl⟩; rw [HM.out])
      go_step3
      go_wp2_with fail
      clear hc0 hne
      go_loop [8, 9] (fun u i => ∃ (k : Nat) (n : Int), 1 ≤ k ∧ k ≤ 5 ∧ k ≤ zs.length ∧ i = .int .i64 k ∧ u = .int .i64 n ∧ Hid (decF zs (5 - k) k (128 ^ (k - 1)) n = decP m zs) ∧ 0 ≤ n ∧ Hid (n ≤ 254 + 128 ^ (k - 1))) (fun _ i => 5 - (intOf i).toNat)
      case atStart => exact ⟨1, m, by omega, by omega, by omega, rfl, rfl, HD.out.symm, by omega, (by show m ≤ 254 + 128 ^ 0; omega)⟩
      case round =>
        obtain ⟨k, n, k1, k5, kl, rfl, rfl, HR, n0, HN⟩ := hrel
        rcases (show k = 1 ∨ k = 2 ∨ k = 3 ∨ k = 4 ∨ k = 5 by omega) with rfl | rfl | rfl | rfl | rfl
        · have hn : n ≤ 255 := by have := HN.out; simpa using this
          by_cases hlt : 1 < zs.length
          · have hck := hc 1 hlt
            have hg := hfit.byte 1
            by_cases h7 : 128 ≤ at0 zs 1
            · go_wp2_with fail
              go_round
              case rel =>
                refine ⟨2, n + at0 zs 1 % 128, by omega, by omega, by omega, rfl, rfl, ?_, by omega, (by show _ ≤ (254 + 128 ^ 1 : Int); omega)⟩
                show decF zs 3 2 128 _ = _
                rw [← HR.out]
                show _ = decF zs 4 1 1 n
                rw [decF_go hlt (by omega) h7]
                congr 1 <;> omega
              case measure => simp [intOf]
            · have HD5 := Lib.hid (decide_eq_true (show 0 ≤ n + at0 zs 1 % 128 ∧ n + at0 zs 1 % 128 ≤ 16777215 by omega))
              have HE := Lib.hid (decF_last (f := 3) (t := 1) (n := n) (i := 1) hlt (by omega) (by omega))
              go_wp2_with (go_at_call 77; refine (isNumber_any _ _).mono ?_; rintro e w' ⟨rfl, rfl⟩; rw [HD5.out])
              rw [Exit.noGoto_ret]
              go_ret3
              exact ⟨Eq.trans (b := Ending.returned (.tuple #[.int .i64 (n + at0 zs 1 % 128), .int .i64 2, .int .i64 0])) rfl (ret_tup3 (by rw [← HR.out]; refine Eq.trans ?_ HE.out.symm; refine Prod.ext ?_ (Prod.ext ?_ rfl) <;> dsimp only <;> omega)), _, rfl⟩
          · have heq : ((1 : Int) == (zs.length : Int)) = true := by rw [show zs.length = 1 by omega]; rfl
            have HE := Lib.hid (decF_end (f := 3) (t := 1) (n := n) (i := 1) (zs := zs) (by omega))
            go_wp2_with fail
            go_ret3
            exact ⟨by rw [← HR.out]; exact congrArg (fun d => Ending.returned (tup3 d)) HE.out.symm, _, rfl⟩
        · have hn : n ≤ 382 := by have := HN.out; simpa using this
          by_cases hlt : 2 < zs.length
          · have hck := hc 2 hlt
            have hg := hfit.byte 2
            by_cases h7 : 128 ≤ at0 zs 2
            · go_wp2_with fail
              go_round
              case rel =>
                refine ⟨3, n + at0 zs 2 % 128 * 128, by omega, by omega, by omega, rfl, rfl, ?_, by omega, (by show _ ≤ (254 + 128 ^ 2 : Int); omega)⟩
                show decF zs 2 3 16384 _ = _
                rw [← HR.out]
                show _ = decF zs 3 2 128 n
                rw [decF_go hlt (by omega) h7]
                congr 1 <;> omega
              case measure => simp [intOf]
            · have HD5 := Lib.hid (decide_eq_true (show 0 ≤ n + at0 zs 2 % 128 * 128 ∧ n + at0 zs 2 % 128 * 128 ≤ 16777215 by omega))
              have HE := Lib.hid (decF_last (f := 2) (t := 128) (n := n) (i := 2) hlt (by omega) (by omega))
              go_wp2_with (go_at_call 77; refine (isNumber_any _ _).mono ?_; rintro e w' ⟨rfl, rfl⟩; rw [HD5.out])
              rw [Exit.noGoto_ret]
              go_ret3
              exact ⟨Eq.trans (b := Ending.returned (.tuple #[.int .i64 (n + at0 zs 2 % 128 * 128), .int .i64 3, .int .i64 0])) rfl (ret_tup3 (by rw [← HR.out]; refine Eq.trans ?_ HE.out.symm; refine Prod.ext ?_ (Prod.ext ?_ rfl) <;> dsimp only <;> omega)), _, rfl⟩
          · have heq : ((2 : Int) == (zs.length : Int)) = true := by rw [show zs.length = 2 by omega]; rfl
            have HE := Lib.hid (decF_end (f := 2) (t := 128) (n := n) (i := 2) (zs := zs) (by omega))
            go_wp2_with fail
            go_ret3
            exact ⟨by rw [← HR.out]; exact congrArg (fun d => Ending.returned (tup3 d)) HE.out.symm, _, rfl⟩
        · have hn : n ≤ 16638 := by have := HN.out; simpa using this
          by_cases hlt : 3 < zs.length
          · have hck := hc 3 hlt
            have hg := hfit.byte 3
            by_cases h7 : 128 ≤ at0 zs 3
            · go_wp2_with fail
              go_round
              case rel =>
                refine ⟨4, n + at0 zs 3 % 128 * 16384, by omega, by omega, by omega, rfl, rfl, ?_, by omega, (by show _ ≤ (254 + 128 ^ 3 : Int); omega)⟩
                show decF zs 1 4 2097152 _ = _
                rw [← HR.out]
                show _ = decF zs 2 3 16384 n
                rw [decF_go hlt (by omega) h7]
                congr 1 <;> omega
              case measure => simp [intOf]
            · have HD5 := Lib.hid (decide_eq_true (show 0 ≤ n + at0 zs 3 % 128 * 16384 ∧ n + at0 zs 3 % 128 * 16384 ≤ 16777215 by omega))
              have HE := Lib.hid (decF_last (f := 1) (t := 16384) (n := n) (i := 3) hlt (by omega) (by omega))
              go_wp2_with (go_at_call 77; refine (isNumber_any _ _).mono ?_; rintro e w' ⟨rfl, rfl⟩; rw [HD5.out])
              rw [Exit.noGoto_ret]
              go_ret3
              exact ⟨Eq.trans (b := Ending.returned (.tuple #[.int .i64 (n + at0 zs 3 % 128 * 16384), .int .i64 4, .int .i64 0])) rfl (ret_tup3 (by rw [← HR.out]; refine Eq.trans ?_ HE.out.symm; refine Prod.ext ?_ (Prod.ext ?_ rfl) <;> dsimp only <;> omega)), _, rfl⟩
          · have heq : ((3 : Int) == (zs.length : Int)) = true := by rw [show zs.length = 3 by omega]; rfl
            have HE := Lib.hid (decF_end (f := 1) (t := 16384) (n := n) (i := 3) (zs := zs) (by omega))
            go_wp2_with fail
            go_ret3
            exact ⟨by rw [← HR.out]; exact congrArg (fun d => Ending.returned (tup3 d)) HE.out.symm, _, rfl⟩
        · have hn : n ≤ 2097406 := by have := HN.out; simpa using this
          by_cases hlt : 4 < zs.length
          · have hck := hc 4 hlt
            have hg := hfit.byte 4
            by_cases h7 : 128 ≤ at0 zs 4
            · go_wp2_with fail
              go_round
              case rel =>
                refine ⟨5, n + at0 zs 4 % 128 * 2097152, by omega, by omega, by omega, rfl, rfl, ?_, by omega, (by show _ ≤ (254 + 128 ^ 4 : Int); omega)⟩
                show decF zs 0 5 _ _ = _
                rw [← HR.out]
                show (0, 0, 3) = decF zs 1 4 2097152 n
                by_cases hbig : 16777215 < n + 2097152 * (at0 zs 4 % 128)
                · rw [decF_over hlt hbig]
                · rw [decF_go hlt (by omega) h7]; rfl
              case measure => simp [intOf]
            by_cases hbig : 16777215 < n + at0 zs 4 % 128 * 2097152
            · have HD5 := Lib.hid (decide_eq_false (show ¬ (0 ≤ n + at0 zs 4 % 128 * 2097152 ∧ n + at0 zs 4 % 128 * 2097152 ≤ 16777215) by omega))
              have HE := Lib.hid (decF_over (f := 0) (t := 2097152) (n := n) (i := 4) hlt (by omega))
              go_wp2_with (go_at_call 77; refine (isNumber_any _ _).mono ?_; rintro e w' ⟨rfl, rfl⟩; rw [HD5.out])
              rw [Exit.noGoto_ret]
              go_ret3
              exact ⟨by rw [← HR.out]; exact congrArg (fun d => Ending.returned (tup3 d)) HE.out.symm, _, rfl⟩
            · have HD5 := Lib.hid (decide_eq_true (show 0 ≤ n + at0 zs 4 % 128 * 2097152 ∧ n + at0 zs 4 % 128 * 2097152 ≤ 16777215 by omega))
              have HE := Lib.hid (decF_last (f := 0) (t := 2097152) (n := n) (i := 4) hlt (by omega) (by omega))
              go_wp2_with (go_at_call 77; refine (isNumber_any _ _).mono ?_; rintro e w' ⟨rfl, rfl⟩; rw [HD5.out])
              rw [Exit.noGoto_ret]
              go_ret3
              exact ⟨Eq.trans (b := Ending.returned (.tuple #[.int .i64 (n + at0 zs 4 % 128 * 2097152), .int .i64 5, .int .i64 0])) rfl (ret_tup3 (by rw [← HR.out]; refine Eq.trans ?_ HE.out.symm; refine Prod.ext ?_ (Prod.ext ?_ rfl) <;> dsimp only <;> omega)), _, rfl⟩
          · have heq : ((4 : Int) == (zs.length : Int)) = true := by rw [show zs.length = 4 by omega]; rfl
            have HE := Lib.hid (decF_end (f := 0) (t := 2097152) (n := n) (i := 4) (zs := zs) (by omega))
            go_wp2_with fail
            go_ret3
            exact ⟨by rw [← HR.out]; exact congrArg (fun d => Ending.returned (tup3 d)) HE.out.symm, _, rfl⟩
        · go_wp2_with fail
          go_ret3
          exact ⟨by rw [← HR.out]; rfl, _, rfl⟩
end Go.Proofs.YtenapfpkegoonaaDoor

/-
  Package item: the kind that an item's first bits tell.
-/
namespace Go.Proofs.YtenapfpkegoonaaDoor
open Go.RowKit

set_option maxRecDepth 20000 in
theorem isSet_any (b : Int) (m : Nat) (w : World) (h0 : 0 ≤ b) (h1 : b ≤ 255) (hm : m ≤ 7) :
    Calls Tryd.prog 86 #[.int .i64 b, .int .i64 m] w fun e w' => e = .returned (.bool (decide (b / 2 ^ m % 2 = 1))) ∧ w = w' := by
  have hp : (0 : Int) < 2 ^ m := Int.pow_pos (by decide)
  have HM : Hid (bits .and .i64 (b / 2 ^ m) 1 = b / 2 ^ m % 2) := by
    have h2 : b / 2 ^ m ≤ 255 := Int.le_trans (Int.ediv_le_self _ h0) h1
    have := i64_mask 1 (b / 2 ^ m) (by decide) (by decide) (Int.ediv_nonneg h0 (Int.le_of_lt hp)) h2
    exact this
  go_enter Tryd.func86, Tryd.ntmps86
  go_wp2_with fail
  go_ret
  refine ⟨?_, rfl⟩
  show Ending.returned (.bool (bits .and .i64 (b / 2 ^ m) 1 == 1)) = _
  rw [HM.out, Bool.beq_eq_decide_eq]

/-- the kind of a first byte -/
def kindI (c : Int) : Int := if 128 ≤ c then 0 else if 64 ≤ c then 1 else if 32 ≤ c then 4 else if 16 ≤ c then 3 else 2
theorem kindI_bound (c : Int) : 0 ≤ kindI c ∧ kindI c < 5 := by unfold kindI; split <;> (try split) <;> (try split) <;> (try split) <;> omega
/-- the bits from one on are those of a kind -/
def alike (k c : Int) (j : Nat) : Prop := c / 2 ^ j = aboveI k / 2 ^ j
theorem alike_step {k c : Int} {m : Nat} (h : alike k c (m + 1)) (he : c / 2 ^ m % 2 = aboveI k / 2 ^ m % 2) : alike k c m := by
  unfold alike at *
  have hp : (0 : Int) < 2 ^ m := Int.pow_pos (by decide)
  rw [Int.pow_succ, ← Int.ediv_ediv_of_nonneg (Int.le_of_lt hp), ← Int.ediv_ediv_of_nonneg (Int.le_of_lt hp)] at h
  omega
theorem alike_up {k c : Int} {m : Nat} (h : alike k c m) : ∀ d, alike k c (m + d) := by
  unfold alike at *
  intro d
  have hp : (0 : Int) < 2 ^ m := Int.pow_pos (by decide)
  rw [Int.pow_add, ← Int.ediv_ediv_of_nonneg (Int.le_of_lt hp), ← Int.ediv_ediv_of_nonneg (Int.le_of_lt hp), h]
theorem alike_not {k c : Int} {m b : Nat} (hb : b ≤ m) (h : c / 2 ^ m % 2 ≠ aboveI k / 2 ^ m % 2) : ¬ alike k c b := by
  intro h2
  obtain ⟨d, rfl⟩ := Nat.exists_eq_add_of_le hb
  have := alike_up h2 d
  unfold alike at this
  rw [this] at h
  exact h rfl
theorem alike_top {k c : Int} (h0 : 0 ≤ c) (h1 : c ≤ 255) : alike k c 8 := by
  have e : aboveI k / 2 ^ 8 = 0 := by unfold aboveI; split <;> (try split) <;> (try split) <;> (try split) <;> decide
  rw [alike, e]
  omega
theorem kindI_of {k c : Int} (k0 : 0 ≤ k) (k4 : k < 5) (h0 : 0 ≤ c) (h1 : c ≤ 255) (h : alike k c (bitsI k).toNat) : kindI c = k := by
  rcases kind_cases k0 k4 with rfl | rfl | rfl | rfl | rfl <;>
  · simp [alike, bitsI, aboveI] at h
    unfold kindI
    split <;> (try split) <;> (try split) <;> (try split) <;> omega
theorem kindI_is (c : Int) (h0 : 0 ≤ c) (h1 : c ≤ 255) : alike (kindI c) c (bitsI (kindI c)).toNat := by
  unfold kindI
  split
  · simp [alike, bitsI, aboveI]; omega
  split
  · simp [alike, bitsI, aboveI]; omega
  split
  · simp [alike, bitsI, aboveI]; omega
  split
  · simp [alike, bitsI, aboveI]; omega
  · simp [alike, bitsI, aboveI]; omega

/-- a row of the table -/
def rowV (k : Int) : Value := .agg #[.int .i64 (bitsI k), .int .i64 (aboveI k), .int .i64 (leastI k), .bool (textsI k)]
theorem row_index0 (q : IntKind) (W : World) : (Instr.index 104 (.agg shCells) (.int q 0)).run Tryd.prog W = .ok (rowV 0) W := by kernel_rfl
theorem row_index1 (q : IntKind) (W : World) : (Instr.index 104 (.agg shCells) (.int q 1)).run Tryd.prog W = .ok (rowV 1) W := by kernel_rfl
theorem row_index2 (q : IntKind) (W : World) : (Instr.index 104 (.agg shCells) (.int q 2)).run Tryd.prog W = .ok (rowV 2) W := by kernel_rfl
theorem row_index3 (q : IntKind) (W : World) : (Instr.index 104 (.agg shCells) (.int q 3)).run Tryd.prog W = .ok (rowV 3) W := by kernel_rfl
theorem row_index4 (q : IntKind) (W : World) : (Instr.index 104 (.agg shCells) (.int q 4)).run Tryd.prog W = .ok (rowV 4) W := by kernel_rfl
theorem row_index (k : Nat) (hk : k < 5) (q : IntKind) (W : World) : (Instr.index 104 (.agg shCells) (.int q k)).run Tryd.prog W = .ok (rowV k) W := by
  have h : k = 0 ∨ k = 1 ∨ k = 2 ∨ k = 3 ∨ k = 4 := by omega
  rcases h with rfl | rfl | rfl | rfl | rfl
  · exact row_index0 q W
  · exact row_index1 q W
  · exact row_index2 q W
  · exact row_index3 q W
  · exact row_index4 q W
theorem shUnder : Tryd.prog.underlying 104 = some (.array 5 103) := by kernel_rfl
theorem shSize : (Tryd.prog.info? 104).map (·.size) = some shCells.size := by kernel_rfl

set_option maxHeartbeats 8000000 in
set_option maxRecDepth 20000 in
theorem kindOf_any (c : Int) (w : World) (hT : ShT w) (h0 : 0 ≤ c) (h1 : c ≤ 255) :
    Calls Tryd.prog 65 #[.int .i64 c] w fun e w' => e = .returned (.int .i64 (kindI c)) ∧ Below w.heap.size w w' := by
  obtain ⟨tt, fr, ht⟩ := hT
  go_enter Tryd.func65, Tryd.ntmps65
  go_wp2_with fail
  go_step3
  go_wp2_with fail
  go_step3
  go_wp2_with (with_reducible refine wpList_load_row rfl 104 (.global 0) rfl 0 rfl tt shCells fr _ ht shUnder rfl shSize ?_)
  have HT := Lib.hid ht
  clear ht
  go_loopg [3, 8] 5 (fun g s3 s8 wr => ∃ k : Nat, k + g = 5 ∧ s8 = .int .i64 k ∧ s3 = .int .i64 0 ∧ Hid (∀ i : Nat, i < k → ¬ alike i c (bitsI i).toNat) ∧ Hid (Below w.heap.size w wr))
  case atStart => exact ⟨0, rfl, rfl, rfl, Lib.hid (fun i h => by omega), Lib.hid (Below.refl _ _)⟩
  case round =>
    obtain ⟨k, hkg, rfl, rfl, HN, HB⟩ := hrel
    have HKG := Lib.hid hkg
    have hk : k ≤ 5 := by omega
    clear hkg
    by_cases hlt : k < 5
    · have hx := row_index k hlt
      obtain ⟨m, hm, hm4, hm7⟩ : ∃ m : Nat, bitsI k = m ∧ 4 ≤ m ∧ m ≤ 7 := by
        rcases kind_cases (k := k) (by omega) (by omega) with h | h | h | h | h <;> rw [h]
        · exact ⟨7, by decide⟩
        · exact ⟨6, by decide⟩
        · exact ⟨4, by decide⟩
        · exact ⟨4, by decide⟩
        · exact ⟨5, by decide⟩
      have ha : 0 ≤ aboveI k ∧ aboveI k ≤ 255 := by unfold aboveI; split <;> (try split) <;> (try split) <;> (try split) <;> omega
      obtain ⟨A, hA⟩ : ∃ A, aboveI k = A := ⟨_, rfl⟩
      obtain ⟨L, hL⟩ : ∃ L, leastI k = L := ⟨_, rfl⟩
      obtain ⟨T, hT⟩ : ∃ T, textsI k = T := ⟨_, rfl⟩
      rw [rowV, hm, hA, hL, hT] at hx
      rw [hA] at ha
      obtain ⟨a0, a1⟩ := ha
      have HA := Lib.hid hA
      have HM := Lib.hid hm
      clear hA hL hT hm
      go_wp2_with fail
      have HW : Hid ((wr.alloc (.cells #[.int .i64 m, .int .i64 A, .int .i64 L, .bool T] 103)).heap[wr.heap.size]? = some (.cells #[.int .i64 m, .int .i64 A, .int .i64 L, .bool T] 103 (0, 0)) ∧ Below w.heap.size w (wr.alloc (.cells #[.int .i64 m, .int .i64 A, .int .i64 L, .bool T] 103))) := ⟨heap_alloc_new _ _, HB.out.alloc HB.out.size _⟩
      obtain ⟨g0, hg0⟩ : ∃ g0, gk = g0 := ⟨_, rfl⟩
      subst hg0
      obtain ⟨R, hR⟩ : ∃ R, wr.heap.size = R := ⟨_, rfl⟩
      rw [hR] at HW ⊢
      clear hx hR
      go_loopg [6] 8 (fun g s6 wx => ∃ b : Nat, b ≤ 7 ∧ b + 1 = g ∧ s6 = .int .i64 b ∧ m ≤ b + 1 ∧ Hid (alike k c (b + 1)) ∧ Hid (wx.heap[R]? = some (.cells #[.int .i64 m, .int .i64 A, .int .i64 L, .bool T] 103 (0, 0)) ∧ Below w.heap.size w wx))
      case atStart => exact ⟨7, by omega, rfl, rfl, by omega, Lib.hid (alike_top h0 h1), HW⟩
      case round =>
        obtain ⟨b, hb7, hbg, rfl, hmb, HL, HX⟩ := hrel
        have HBG := Lib.hid hbg
        clear hbg HW HB
        by_cases hge : m ≤ b
        · have c0 := blk_cell (j := 0) HX.out.1 rfl
          have c1 := blk_cell (j := 1) HX.out.1 rfl
          have q0 : wr.cell? ⟨R, 0, none⟩ = some (.int .i64 m) := c0
          have q1 : wr.cell? ⟨R, 1, none⟩ = some (.int .i64 A) := c1
          clear c0 c1
          have d1 : decide ((m : Int) ≤ (b : Int)) = true := decide_eq_true (by omega)
          have S1 : Hid (∀ W : World, Calls Tryd.prog 86 #[.int .i64 c, .int .i64 b] W fun e w' => e = .returned (.bool (decide (c / 2 ^ b % 2 = 1))) ∧ w' = W) := fun W => (isSet_any c b W h0 h1 (by omega)).mono (fun e w' h => ⟨h.1, h.2.symm⟩)
          have S2 : Hid (∀ W : World, Calls Tryd.prog 86 #[.int .i64 A, .int .i64 b] W fun e w' => e = .returned (.bool (decide (A / 2 ^ b % 2 = 1))) ∧ w' = W) := fun W => (isSet_any A b W a0 a1 (by omega)).mono (fun e w' h => ⟨h.1, h.2.symm⟩)
          by_cases he : c / 2 ^ b % 2 = A / 2 ^ b % 2
          · have hne : (!(decide (c / 2 ^ b % 2 = 1) == decide (A / 2 ^ b % 2 = 1))) = false := by rw [he]; simp
            have HS := Lib.hid (alike_step HL.out (by rw [HA.out]; exact he))
            clear he
            obtain ⟨u, hu⟩ : ∃ u, decide (c / 2 ^ b % 2 = 1) = u := ⟨_, rfl⟩
            obtain ⟨v, hv⟩ : ∃ v, decide (A / 2 ^ b % 2 = 1) = v := ⟨_, rfl⟩
            rw [hu] at hne S1
            rw [hv] at hne S2
            clear hu hv
            go_wp2_with fail
            go_quiet ((go_at_call 86; first | exact Calls.quiet_of_same (S1.out _) | exact Calls.quiet_of_same (S2.out _)))
            go_wp2_with fail
            go_roundg b
            case measure => have := HBG.out; omega
            case rel =>
              obtain ⟨b', rfl⟩ : ∃ b', b = b' + 1 := ⟨b - 1, by omega⟩
              exact ⟨b', by omega, by omega, by go_num, by omega, HS, Lib.hid ⟨HX.out.1, below_drewN HX.out.2 _⟩⟩
          · have hne : (!(decide (c / 2 ^ b % 2 = 1) == decide (A / 2 ^ b % 2 = 1))) = true := by
              have h1 : c / 2 ^ b % 2 = 0 ∨ c / 2 ^ b % 2 = 1 := by omega
              have h2 : A / 2 ^ b % 2 = 0 ∨ A / 2 ^ b % 2 = 1 := by omega
              rcases h1 with h1 | h1 <;> rcases h2 with h2 | h2 <;> simp [h1, h2] at he ⊢
            have HS := Lib.hid (alike_not (k := k) (m := b) (b := (bitsI k).toNat) (by rw [HM.out]; omega) (by rw [HA.out]; exact he))
            clear he
            obtain ⟨u, hu⟩ : ∃ u, decide (c / 2 ^ b % 2 = 1) = u := ⟨_, rfl⟩
            obtain ⟨v, hv⟩ : ∃ v, decide (A / 2 ^ b % 2 = 1) = v := ⟨_, rfl⟩
            rw [hu] at hne S1
            rw [hv] at hne S2
            clear hu hv
            go_wp2_with fail
            go_quiet ((go_at_call 86; first | exact Calls.quiet_of_same (S1.out _) | exact Calls.quiet_of_same (S2.out _)))
            go_wp2_with fail
            go_roundg (5 - (k + 1))
            case measure => have := HKG.out; omega
            case rel =>
              refine ⟨k + 1, by omega, by go_num, rfl, Lib.hid (fun i hi => ?_), Lib.hid (below_drewN HX.out.2 _)⟩
              by_cases hik : i = k
              · rw [hik]; exact HS.out
              · exact HN.out i (by omega)
        · have hend : m = b + 1 := by omega
          have c0 : wr.cell? ⟨R, 0, none⟩ = some (.int .i64 m) := blk_cell (j := 0) HX.out.1 rfl
          have d1 : decide ((m : Int) ≤ (b : Int)) = false := decide_eq_false (by omega)
          have HK : Hid (kindI c = k) := kindI_of (by omega) (by omega) h0 h1 (by rw [HM.out, hend]; exact HL.out)
          clear hend
          go_wp2_with fail
          try rw [Exit.noGoto_ret]
          go_ret
          exact ⟨by rw [HK.out]; rfl, HX.out.2⟩
    · obtain rfl : k = 5 := by omega
      exfalso
      have h5 := kindI_bound c
      have := kindI_is c h0 h1
      refine HN.out (kindI c).toNat (by omega) ?_
      rw [Int.toNat_of_nonneg h5.1]
      exact this
end Go.Proofs.YtenapfpkegoonaaDoor

/-
  Layer 4, plain mathematics: lengths and codes; no code begins another one. No program is named here.
-/
namespace Go.Proofs.YtenapfpkegoonaaDoor

def lenN : List Nat := [13, 23, 28, 28, 28, 28, 28, 28, 28, 24, 30, 28, 28, 30, 28, 28, 28, 28, 28, 28, 28, 28, 30, 28, 28, 28, 28, 28, 28, 28, 28, 28, 6, 10, 10, 12, 13, 6, 8, 11, 10, 10, 8, 11, 8, 6, 6, 6, 5, 5, 5, 6, 6, 6, 6, 6, 6, 6, 7, 8, 15, 6, 12, 10, 13, 6, 7, 7, 7, 7, 7, 7, 7, 7, 7, 7, 7, 7, 7, 7, 7, 7, 7, 7, 7, 7, 7, 7, 8, 7, 8, 13, 19, 13, 14, 6, 15, 5, 6, 5, 6, 5, 6, 6, 6, 5, 7, 7, 6, 6, 6, 5, 6, 7, 6, 5, 5, 6, 7, 7, 7, 7, 7, 15, 11, 14, 13, 28, 20, 22, 20, 20, 22, 22, 22, 23, 22, 23, 23, 23, 23, 23, 24, 23, 24, 24, 22, 23, 24, 23, 23, 23, 23, 21, 22, 23, 22, 23, 23, 24, 22, 21, 20, 22, 22, 23, 23, 21, 23, 22, 22, 24, 21, 22, 23, 23, 21, 21, 22, 21, 23, 22, 23, 23, 20, 22, 22, 22, 23, 22, 22, 23, 26, 26, 20, 19, 22, 23, 22, 25, 26, 26, 26, 27, 27, 26, 24, 25, 19, 21, 26, 27, 27, 26, 27, 24, 21, 21, 26, 26, 28, 27, 27, 27, 20, 24, 20, 21, 22, 21, 21, 23, 22, 22, 25, 25, 24, 24, 26, 23, 26, 27, 26, 26, 27, 27, 27, 27, 27, 28, 27, 27, 27, 27, 27, 26, 30]
def codeN : List Nat := [8184, 8388568, 268435426, 268435427, 268435428, 268435429, 268435430, 268435431, 268435432, 16777194, 1073741820, 268435433, 268435434, 1073741821, 268435435, 268435436, 268435437, 268435438, 268435439, 268435440, 268435441, 268435442, 1073741822, 268435443, 268435444, 268435445, 268435446, 268435447, 268435448, 268435449, 268435450, 268435451, 20, 1016, 1017, 4090, 8185, 21, 248, 2042, 1018, 1019, 249, 2043, 250, 22, 23, 24, 0, 1, 2, 25, 26, 27, 28, 29, 30, 31, 92, 251, 32764, 32, 4091, 1020, 8186, 33, 93, 94, 95, 96, 97, 98, 99, 100, 101, 102, 103, 104, 105, 106, 107, 108, 109, 110, 111, 112, 113, 114, 252, 115, 253, 8187, 524272, 8188, 16380, 34, 32765, 3, 35, 4, 36, 5, 37, 38, 39, 6, 116, 117, 40, 41, 42, 7, 43, 118, 44, 8, 9, 45, 119, 120, 121, 122, 123, 32766, 2044, 16381, 8189, 268435452, 1048550, 4194258, 1048551, 1048552, 4194259, 4194260, 4194261, 8388569, 4194262, 8388570, 8388571, 8388572, 8388573, 8388574, 16777195, 8388575, 16777196, 16777197, 4194263, 8388576, 16777198, 8388577, 8388578, 8388579, 8388580, 2097116, 4194264, 8388581, 4194265, 8388582, 8388583, 16777199, 4194266, 2097117, 1048553, 4194267, 4194268, 8388584, 8388585, 2097118, 8388586, 4194269, 4194270, 16777200, 2097119, 4194271, 8388587, 8388588, 2097120, 2097121, 4194272, 2097122, 8388589, 4194273, 8388590, 8388591, 1048554, 4194274, 4194275, 4194276, 8388592, 4194277, 4194278, 8388593, 67108832, 67108833, 1048555, 524273, 4194279, 8388594, 4194280, 33554412, 67108834, 67108835, 67108836, 134217694, 134217695, 67108837, 16777201, 33554413, 524274, 2097123, 67108838, 134217696, 134217697, 67108839, 134217698, 16777202, 2097124, 2097125, 67108840, 67108841, 268435453, 134217699, 134217700, 134217701, 1048556, 16777203, 1048557, 2097126, 4194281, 2097127, 2097128, 8388595, 4194282, 4194283, 33554414, 33554415, 16777204, 16777205, 67108842, 8388596, 67108843, 134217702, 67108844, 67108845, 134217703, 134217704, 134217705, 134217706, 134217707, 268435454, 134217708, 134217709, 134217710, 134217711, 134217712, 67108846, 1073741823]
def ordN : List Nat := [48, 49, 50, 97, 99, 101, 105, 111, 115, 116, 32, 37, 45, 46, 47, 51, 52, 53, 54, 55, 56, 57, 61, 65, 95, 98, 100, 102, 103, 104, 108, 109, 110, 112, 114, 117, 58, 66, 67, 68, 69, 70, 71, 72, 73, 74, 75, 76, 77, 78, 79, 80, 81, 82, 83, 84, 85, 86, 87, 89, 106, 107, 113, 118, 119, 120, 121, 122, 38, 42, 44, 59, 88, 90, 33, 34, 40, 41, 63, 39, 43, 124, 35, 62, 0, 36, 64, 91, 93, 126, 94, 125, 60, 96, 123, 92, 195, 208, 128, 130, 131, 162, 184, 194, 224, 226, 153, 161, 167, 172, 176, 177, 179, 209, 216, 217, 227, 229, 230, 129, 132, 133, 134, 136, 146, 154, 156, 160, 163, 164, 169, 170, 173, 178, 181, 185, 186, 187, 189, 190, 196, 198, 228, 232, 233, 1, 135, 137, 138, 139, 140, 141, 143, 147, 149, 150, 151, 152, 155, 157, 158, 165, 166, 168, 174, 175, 180, 182, 183, 188, 191, 197, 231, 239, 9, 142, 144, 145, 148, 159, 171, 206, 215, 225, 236, 237, 199, 207, 234, 235, 192, 193, 200, 201, 202, 205, 210, 213, 218, 219, 238, 240, 242, 243, 255, 203, 204, 211, 212, 214, 221, 222, 223, 241, 244, 245, 246, 247, 248, 250, 251, 252, 253, 254, 2, 3, 4, 5, 6, 7, 8, 11, 12, 14, 15, 16, 17, 18, 19, 20, 21, 23, 24, 25, 26, 27, 28, 29, 30, 31, 127, 220, 249, 10, 13, 22, 256]
def nextN : List Nat := [0, 0, 0, 0, 0, 0, 20, 92, 248, 508, 1016, 2042, 4090, 8184, 16380, 32764, 65534, 131068, 262136, 524272, 1048550, 2097116, 4194258, 8388568, 16777194, 33554412, 67108832, 134217694, 268435426, 536870910, 1073741820, 2147483648]

/-- a byte's length, and its code; at 256 the end's -/
def len (c : Nat) : Nat := lenN.getD c 0
def code (c : Nat) : Nat := codeN.getD c 0
theorem lenN_length : lenN.length = 257 := by decide +kernel
theorem codeN_length : codeN.length = 257 := by decide +kernel
theorem len_all : lenN.all (fun x => 5 ≤ x && x ≤ 30) = true := by decide +kernel
theorem len_bd {c : Nat} (h : c < 257) : 5 ≤ len c ∧ len c ≤ 30 := by
  have hm : len c ∈ lenN := by
    have : c < lenN.length := by rw [lenN_length]; exact h
    simp [len, this]
  have := List.all_eq_true.1 len_all _ hm
  simpa using this
theorem len_end : len 256 = 30 := by decide +kernel
theorem code_end : code 256 = 1073741823 := by decide +kernel

/-- where the numbers of 30 bits begin that begin with a code; how many there are -/
def lo (c : Nat) : Nat := code c * 2 ^ (30 - len c)
def wd (c : Nat) : Nat := 2 ^ (30 - len c)
theorem wd_pos (c : Nat) : 0 < wd c := Nat.pow_pos (by omega)
/-- these codes, in order, take up all numbers of 30 bits from one on; lengths rise -/
def chain : Nat → Nat → List Nat → Bool
  | r, _, [] => r == 1073741824
  | r, l, c :: t => Nat.ble l (len c) && (lo c == r) && chain (r + wd c) (len c) t
theorem chain_ord : chain 0 0 ordN = true := by decide +kernel
theorem ord_all : (List.range 257).all (fun c => ordN.contains c) = true := by decide +kernel
theorem ord_mem {c : Nat} (h : c < 257) : c ∈ ordN := by
  have := List.all_eq_true.1 ord_all c (List.mem_range.2 h)
  simpa using this
theorem ord_lt : ordN.all (fun c => Nat.blt c 257) = true := by decide +kernel
theorem lt_of_ord {c : Nat} (h : c ∈ ordN) : c < 257 := by
  have := List.all_eq_true.1 ord_lt c h
  simpa [Nat.blt_eq] using this
theorem chain_cons {r l c : Nat} {t : List Nat} (h : chain r l (c :: t) = true) : l ≤ len c ∧ lo c = r ∧ chain (r + wd c) (len c) t = true := by
  simp only [chain, Bool.and_eq_true, beq_iff_eq, Nat.ble_eq] at h
  exact ⟨h.1.1, h.1.2, h.2⟩
theorem chain_ge : ∀ {S : List Nat} {r l : Nat}, chain r l S = true → ∀ c ∈ S, r ≤ lo c ∧ l ≤ len c
  | [], _, _, _, c, hc => by simp at hc
  | d :: t, r, l, h, c, hc => by
    obtain ⟨h1, h2, h3⟩ := chain_cons h
    rcases List.mem_cons.1 hc with rfl | hc
    · exact ⟨by omega, h1⟩
    · have := chain_ge h3 c hc
      have := wd_pos d
      omega
theorem chain_cover : ∀ {S : List Nat} {r l : Nat}, chain r l S = true → ∀ v, r ≤ v → v < 1073741824 → ∃ c ∈ S, lo c ≤ v ∧ v < lo c + wd c
  | [], r, _, h, v, h1, h2 => by
    simp only [chain, beq_iff_eq] at h
    omega
  | d :: t, r, l, h, v, h1, h2 => by
    obtain ⟨_, h3, h4⟩ := chain_cons h
    by_cases hv : v < r + wd d
    · exact ⟨d, by simp, by omega, by omega⟩
    · obtain ⟨c, hc, hh⟩ := chain_cover h4 v (by omega) h2
      exact ⟨c, by simp [hc], hh⟩
theorem chain_apart : ∀ {S : List Nat} {r l : Nat}, chain r l S = true → ∀ c ∈ S, ∀ d ∈ S, c = d ∨ (lo c + wd c ≤ lo d ∧ len c ≤ len d) ∨ (lo d + wd d ≤ lo c ∧ len d ≤ len c)
  | [], _, _, _, c, hc, _, _ => by simp at hc
  | e :: t, r, l, h, c, hc, d, hd => by
    obtain ⟨_, h3, h4⟩ := chain_cons h
    rcases List.mem_cons.1 hc with h1 | h1
    · rcases List.mem_cons.1 hd with h2 | h2
      · exact .inl (h1.trans h2.symm)
      · have := chain_ge h4 d h2
        rw [h1]
        exact .inr (.inl ⟨by omega, this.2⟩)
    · rcases List.mem_cons.1 hd with h2 | h2
      · have := chain_ge h4 c h1
        rw [h2]
        exact .inr (.inr ⟨by omega, this.2⟩)
      · exact chain_apart h4 c h1 d h2
theorem apart {c d : Nat} (hc : c < 257) (hd : d < 257) : c = d ∨ (lo c + wd c ≤ lo d ∧ len c ≤ len d) ∨ (lo d + wd d ≤ lo c ∧ len d ≤ len c) := chain_apart chain_ord c (ord_mem hc) d (ord_mem hd)
theorem code_all : (List.range 257).all (fun c => Nat.blt (code c) (2 ^ len c)) = true := by decide +kernel
theorem code_lt {c : Nat} (h : c < 257) : code c < 2 ^ len c := by
  have := List.all_eq_true.1 code_all c (List.mem_range.2 h)
  simpa [Nat.blt_eq] using this

theorem pow_split {m n : Nat} (h : m ≤ n) (h2 : n ≤ 30) : 2 ^ (30 - m) = 2 ^ (n - m) * 2 ^ (30 - n) := by
  rw [← Nat.pow_add]; congr 1; omega
/-- no code begins with another one's -/
theorem begins {c d : Nat} (hc : c < 257) (hd : d < 257) (hi : len c ≤ len d) (hk : code c = code d / 2 ^ (len d - len c)) : c = d := by
  have hd30 := (len_bd hd).2
  have hp : 0 < 2 ^ (len d - len c) := Nat.pow_pos (by omega)
  have hq : 0 < 2 ^ (30 - len d) := Nat.pow_pos (by omega)
  have h1 : code c * 2 ^ (len d - len c) ≤ code d := by rw [hk]; exact Nat.div_mul_le_self _ _
  have h2 : code d < (code c + 1) * 2 ^ (len d - len c) := by
    rw [hk]
    have := Nat.lt_div_mul_add (a := code d) hp
    rw [Nat.add_mul, Nat.one_mul]
    exact this
  have e := pow_split hi hd30
  have h3 : lo c ≤ lo d := by
    unfold lo
    rw [e, ← Nat.mul_assoc]
    exact Nat.mul_le_mul_right _ h1
  have h4 : lo d < lo c + wd c := by
    have := Nat.mul_lt_mul_of_pos_right h2 hq
    unfold lo wd
    rw [e, ← Nat.add_one_mul, ← Nat.mul_assoc]
    exact this
  have := wd_pos d
  rcases apart hc hd with h | h | h
  · exact h
  · omega
  · omega
/-- a longer code is greater, by its first bits -/
theorem longer {c d : Nat} (hc : c < 257) (hd : d < 257) (hi : len c < len d) : code c < code d / 2 ^ (len d - len c) := by
  have hd30 := (len_bd hd).2
  have hp : 0 < 2 ^ (len d - len c) := Nat.pow_pos (by omega)
  have hq : 0 < 2 ^ (30 - len d) := Nat.pow_pos (by omega)
  have e := pow_split (Nat.le_of_lt hi) hd30
  have h1 : lo c + wd c ≤ lo d := by
    rcases apart hc hd with h | h | h
    · subst h; omega
    · exact h.1
    · omega
  unfold lo wd at h1
  rw [e, ← Nat.add_one_mul, ← Nat.mul_assoc] at h1
  have h2 := Nat.le_of_mul_le_mul_right h1 hq
  have := (Nat.le_div_iff_mul_le hp).2 h2
  omega

/-- the byte, or the end, whose code these are -/
def look (n k : Nat) : Option Nat := (List.range 257).find? (fun c => len c == n && code c == k)
theorem look_of {n k c : Nat} (h : look n k = some c) : c < 257 ∧ len c = n ∧ code c = k := by
  have h1 := List.find?_some h
  have h2 := List.mem_of_find?_eq_some h
  simp only [Bool.and_eq_true, beq_iff_eq] at h1
  exact ⟨List.mem_range.1 h2, h1.1, h1.2⟩
theorem code_inj {c d : Nat} (hc : c < 257) (hd : d < 257) (hl : len c = len d) (hk : code c = code d) : c = d :=
  begins hc hd (by omega) (by rw [hl, Nat.sub_self, Nat.pow_zero, Nat.div_one]; exact hk)
theorem look_is {c : Nat} (h : c < 257) : look (len c) (code c) = some c := by
  cases e : look (len c) (code c) with
  | none =>
    have := List.find?_eq_none.1 e c (List.mem_range.2 h)
    simp at this
  | some d =>
    obtain ⟨h1, h2, h3⟩ := look_of e
    rw [code_inj h1 h h2 h3]
theorem look_none {n k : Nat} (h : look n k = none) {c : Nat} (hc : c < 257) : ¬ (len c = n ∧ code c = k) := by
  rintro ⟨rfl, rfl⟩
  rw [look_is hc] at h
  cases h
/-- each number of 30 bits begins with a code -/
theorem complete {v : Nat} (h : v < 1073741824) : ∃ c, c < 257 ∧ code c = v / 2 ^ (30 - len c) := by
  obtain ⟨c, hc, h1, h2⟩ := chain_cover chain_ord v (Nat.zero_le _) h
  refine ⟨c, lt_of_ord hc, ?_⟩
  unfold lo wd at *
  rw [← Nat.add_one_mul] at h2
  have hq : 0 < 2 ^ (30 - len c) := Nat.pow_pos (by omega)
  have := (Nat.div_lt_iff_lt_mul hq).2 h2
  have := (Nat.le_div_iff_mul_le hq).2 h1
  omega

/-- bits that wait: no code begins them -/
def Pend (n k : Nat) : Prop := k < 2 ^ n ∧ ∀ i, i ≤ n → look i (k / 2 ^ (n - i)) = none
theorem look_short {n k : Nat} (h : n < 5) : look n k = none := by
  cases e : look n k with
  | none => rfl
  | some d =>
    obtain ⟨h1, h2, _⟩ := look_of e
    have := (len_bd h1).1
    omega
theorem pend0 : Pend 0 0 := ⟨by decide, fun i hi => look_short (by omega)⟩
theorem half_bit {k b : Nat} (h : b < 2) : (2 * k + b) / 2 = k := by omega
theorem pend_step {n k b : Nat} (h : Pend n k) (hb : b < 2) (hl : look (n + 1) (2 * k + b) = none) : Pend (n + 1) (2 * k + b) := by
  obtain ⟨h1, h2⟩ := h
  refine ⟨by rw [Nat.pow_succ]; omega, fun i hi => ?_⟩
  by_cases he : i = n + 1
  · subst he
    rw [Nat.sub_self, Nat.pow_zero, Nat.div_one]
    exact hl
  · have := h2 i (by omega)
    rw [show n + 1 - i = 1 + (n - i) by omega, Nat.pow_add, ← Nat.div_div_eq_div_mul, Nat.pow_one, half_bit hb]
    exact this
theorem pend_lt {n k : Nat} (h : Pend n k) : n < 30 := by
  obtain ⟨h1, h2⟩ := h
  apply Classical.byContradiction
  intro hn
  have hv : k / 2 ^ (n - 30) < 1073741824 := by
    rw [Nat.div_lt_iff_lt_mul (Nat.pow_pos (by omega))]
    rw [show (1073741824 : Nat) = 2 ^ 30 from rfl, ← Nat.pow_add, show 30 + (n - 30) = n by omega]
    exact h1
  obtain ⟨c, hc, he⟩ := complete hv
  have hc30 := (len_bd hc).2
  have := h2 (len c) (by omega)
  rw [Nat.div_div_eq_div_mul, ← Nat.pow_add, show n - 30 + (30 - len c) = n - len c by omega] at he
  rw [← he, look_is hc] at this
  cases this

end Go.Proofs.YtenapfpkegoonaaDoor

/-
  Layer 4, plain mathematics: texts as bits, bits as bytes; there and back. No program is named here.
-/
namespace Go.Proofs.YtenapfpkegoonaaDoor
open Go.RowKit

/-- so many bits of a number, the highest one first -/
def bitsOf : Nat → Nat → List Nat
  | 0, _ => []
  | n + 1, k => bitsOf n (k / 2) ++ [k % 2]
def Bits (l : List Nat) : Prop := ∀ x ∈ l, x < 2
theorem bitsOf_length : ∀ n k, (bitsOf n k).length = n
  | 0, _ => rfl
  | n + 1, k => by simp [bitsOf, bitsOf_length n]
theorem bitsOf_bits : ∀ n k, Bits (bitsOf n k)
  | 0, _ => fun x hx => by simp [bitsOf] at hx
  | n + 1, k => fun x hx => by
    simp only [bitsOf, List.mem_append, List.mem_singleton] at hx
    rcases hx with hx | rfl
    · exact bitsOf_bits n _ x hx
    · omega
theorem bitsOf_snoc {n k b : Nat} (hb : b < 2) : bitsOf (n + 1) (2 * k + b) = bitsOf n k ++ [b] := by
  rw [bitsOf, half_bit hb, show (2 * k + b) % 2 = b by omega]
theorem bitsOf_get : ∀ {n k i : Nat}, i < n → (bitsOf n k).getD i 0 = k / 2 ^ (n - 1 - i) % 2
  | n + 1, k, i, h => by
    rw [bitsOf]
    by_cases he : i = n
    · subst he
      have : (bitsOf i (k / 2)).length = i := bitsOf_length _ _
      simp [List.getD, this]
    · have hl : i < n := by omega
      have hlen : (bitsOf n (k / 2)).length = n := bitsOf_length _ _
      have ih := bitsOf_get (k := k / 2) hl
      rw [List.getD, List.getElem?_append_left (by rw [hlen]; exact hl), ← List.getD, ih, Nat.div_div_eq_div_mul, ← Nat.pow_succ', show (n - 1 - i).succ = n + 1 - 1 - i by omega]
theorem Bits.append {a b : List Nat} (ha : Bits a) (hb : Bits b) : Bits (a ++ b) := fun x hx => (List.mem_append.1 hx).elim (ha x) (hb x)
theorem Bits.take {a : List Nat} (h : Bits a) (n : Nat) : Bits (a.take n) := fun x hx => h x (List.mem_of_mem_take hx)
theorem Bits.drop {a : List Nat} (h : Bits a) (n : Nat) : Bits (a.drop n) := fun x hx => h x (List.mem_of_mem_drop hx)
theorem bits_ones (n : Nat) : Bits (List.replicate n 1) := fun x hx => by rw [(List.mem_replicate.1 hx).2]; omega

/-- a list from its end on -/
theorem snocInd {α : Type} {p : List α → Prop} (h0 : p []) (h1 : ∀ l a, p l → p (l ++ [a])) (l : List α) : p l := by
  rw [← List.reverse_reverse l]
  induction l.reverse with
  | nil => exact h0
  | cons a t ih => rw [List.reverse_cons]; exact h1 _ _ ih
/-- the number of bits -/
def val (l : List Nat) : Nat := l.foldl (fun a b => 2 * a + b) 0
theorem val_snoc (l : List Nat) (b : Nat) : val (l ++ [b]) = 2 * val l + b := by simp [val]
theorem val_append : ∀ (l m : List Nat), val (l ++ m) = val l * 2 ^ m.length + val m := by
  intro l m
  induction m using snocInd with
  | h0 => simp [val]
  | h1 m b ih =>
    rw [← List.append_assoc, val_snoc, ih, val_snoc, List.length_append, List.length_singleton, Nat.pow_succ, Nat.mul_add, Nat.add_assoc, Nat.mul_comm (2 ^ m.length) 2, Nat.mul_left_comm]
theorem val_lt (l : List Nat) (h : Bits l) : val l < 2 ^ l.length := by
  induction l using snocInd with
  | h0 => simp [val]
  | h1 m b ih =>
    have h1 := ih (fun x hx => h x (by simp [hx]))
    have h2 := h b (by simp)
    rw [val_snoc, List.length_append, List.length_singleton, Nat.pow_succ]
    omega
theorem val_bitsOf : ∀ (n k : Nat), k < 2 ^ n → val (bitsOf n k) = k
  | 0, k, h => by simp [bitsOf, val]; omega
  | n + 1, k, h => by
    rw [bitsOf, val_snoc, val_bitsOf n (k / 2) (by rw [Nat.pow_succ] at h; omega)]
    omega
theorem bitsOf_val (l : List Nat) (h : Bits l) : bitsOf l.length (val l) = l := by
  induction l using snocInd with
  | h0 => rfl
  | h1 m b ih =>
    rw [val_snoc, List.length_append, List.length_singleton, bitsOf_snoc (h b (by simp)), ih (fun x hx => h x (by simp [hx]))]
theorem ones_eq (n : Nat) : bitsOf n (2 ^ n - 1) = List.replicate n 1 := by
  induction n with
  | zero => rfl
  | succ n ih =>
    have hp : 0 < 2 ^ n := Nat.pow_pos (by omega)
    rw [show 2 ^ (n + 1) - 1 = 2 * (2 ^ n - 1) + 1 by rw [Nat.pow_succ]; omega, bitsOf_snoc (by omega), ih, List.replicate_succ']

/-- bits in groups of eight, each one a byte -/
def grp (l : List Nat) : List Int := if _h : l.length < 8 then [] else (val (l.take 8) : Int) :: grp (l.drop 8)
  termination_by l.length
  decreasing_by simp; omega
theorem grp_short {l : List Nat} (h : l.length < 8) : grp l = [] := by rw [grp, dif_pos h]
theorem grp_cons {l m : List Nat} (h : l.length = 8) : grp (l ++ m) = (val l : Int) :: grp m := by
  rw [grp, dif_neg (by simp; omega), List.take_left' h, List.drop_left' h]
theorem grp_append : ∀ (n : Nat) (l m : List Nat), l.length = 8 * n → grp (l ++ m) = grp l ++ grp m
  | 0, l, m, h => by
    obtain rfl := List.eq_nil_of_length_eq_zero (by omega : l.length = 0)
    simp [grp_short]
  | n + 1, l, m, h => by
    have h1 : (l.take 8).length = 8 := by simp; omega
    have h2 : (l.drop 8).length = 8 * n := by simp; omega
    have e : l = l.take 8 ++ l.drop 8 := (List.take_append_drop 8 l).symm
    rw [e, List.append_assoc, grp_cons h1, grp_cons h1, grp_append n _ m h2, List.cons_append]
theorem grp_one {l : List Nat} (h : l.length = 8) : grp l = [(val l : Int)] := by
  have := grp_cons (m := []) h
  rwa [List.append_nil, grp_short (l := []) (by decide)] at this
theorem grp_length : ∀ (n : Nat) (l : List Nat), l.length = 8 * n → (grp l).length = n
  | 0, l, h => by rw [grp_short (by omega)]; rfl
  | n + 1, l, h => by
    have h1 : (l.take 8).length = 8 := by simp; omega
    have h2 : (l.drop 8).length = 8 * n := by simp; omega
    rw [← List.take_append_drop 8 l, grp_cons h1, List.length_cons, grp_length n _ h2]
theorem grp_fit : ∀ (n : Nat) (l : List Nat), l.length = 8 * n → Bits l → Fit .u8 (grp l)
  | 0, l, h, _ => by rw [grp_short (by omega)]; intro x hx; simp at hx
  | n + 1, l, h, hb => by
    have h1 : (l.take 8).length = 8 := by simp; omega
    have h2 : (l.drop 8).length = 8 * n := by simp; omega
    rw [← List.take_append_drop 8 l, grp_cons h1]
    intro x hx
    rcases List.mem_cons.1 hx with rfl | hx
    · have := val_lt _ (hb.take 8)
      rw [h1] at this
      exact WalkArith.wf_u8 (by omega)
    · exact grp_fit n _ h2 (hb.drop 8) x hx

/-- the bits of bytes -/
def bitsB (zs : List Int) : List Nat := zs.flatMap fun z => bitsOf 8 z.toNat
theorem bitsB_nil : bitsB [] = [] := rfl
theorem bitsB_cons (z : Int) (zs : List Int) : bitsB (z :: zs) = bitsOf 8 z.toNat ++ bitsB zs := by simp [bitsB]
theorem bitsB_append (a b : List Int) : bitsB (a ++ b) = bitsB a ++ bitsB b := by simp [bitsB]
theorem bitsB_length : ∀ zs : List Int, (bitsB zs).length = 8 * zs.length
  | [] => rfl
  | z :: zs => by rw [bitsB_cons, List.length_append, bitsOf_length, bitsB_length zs, List.length_cons]; omega
theorem bitsB_bits (zs : List Int) : Bits (bitsB zs) := fun x hx => by
  obtain ⟨z, _, hz⟩ := List.mem_flatMap.1 hx
  exact bitsOf_bits _ _ x hz
theorem bitsB_grp : ∀ (n : Nat) (l : List Nat), l.length = 8 * n → Bits l → bitsB (grp l) = l
  | 0, l, h, _ => by
    obtain rfl := List.eq_nil_of_length_eq_zero (by omega : l.length = 0)
    rw [grp_short (by simp)]; rfl
  | n + 1, l, h, hb => by
    have h1 : (l.take 8).length = 8 := by simp; omega
    have h2 : (l.drop 8).length = 8 * n := by simp; omega
    have e := bitsOf_val _ (hb.take 8)
    rw [h1] at e
    conv => lhs; rw [← List.take_append_drop 8 l]
    rw [grp_cons h1, bitsB_cons, Int.toNat_natCast, e, bitsB_grp n _ h2 (hb.drop 8), List.take_append_drop]
theorem grp_bitsB : ∀ (zs : List Int), Fit .u8 zs → grp (bitsB zs) = zs
  | [], _ => by rw [bitsB_nil, grp_short (by simp)]
  | z :: zs, h => by
    have hz := bounds_u8 (h z (by simp))
    rw [bitsB_cons, grp_cons (bitsOf_length _ _), val_bitsOf _ _ (by omega), grp_bitsB zs (fun x hx => h x (by simp [hx]))]
    congr 1; omega
/-- the bit at a place -/
theorem bitsB_at : ∀ {zs : List Int} {q r : Nat}, q < zs.length → r < 8 → (bitsB zs).getD (8 * q + r) 0 = (bitsOf 8 (at0 zs q).toNat).getD r 0
  | z :: zs, 0, r, _, hr => by
    rw [bitsB_cons, List.getD, List.getElem?_append_left (by rw [bitsOf_length]; omega), ← List.getD]
    simp [at0]
  | z :: zs, q + 1, r, hq, hr => by
    have := bitsB_at (zs := zs) (q := q) (by simpa using hq) hr
    rw [bitsB_cons, List.getD, List.getElem?_append_right (by rw [bitsOf_length]; omega), bitsOf_length, show 8 * (q + 1) + r - 8 = 8 * q + r by omega, ← List.getD, this]
    simp [at0]

/-- the bits of a text: its codes, one behind the other -/
def bitsT (zs : List Int) : List Nat := zs.flatMap fun z => bitsOf (len z.toNat) (code z.toNat)
theorem bitsT_nil : bitsT [] = [] := rfl
theorem bitsT_cons (z : Int) (zs : List Int) : bitsT (z :: zs) = bitsOf (len z.toNat) (code z.toNat) ++ bitsT zs := by simp [bitsT]
theorem bitsT_snoc (zs : List Int) (z : Int) : bitsT (zs ++ [z]) = bitsT zs ++ bitsOf (len z.toNat) (code z.toNat) := by simp [bitsT]
theorem bitsT_bits (zs : List Int) : Bits (bitsT zs) := fun x hx => by
  obtain ⟨z, _, hz⟩ := List.mem_flatMap.1 hx
  exact bitsOf_bits _ _ x hz
theorem bitsT_length : ∀ (zs : List Int), Fit .u8 zs → (bitsT zs).length ≤ 30 * zs.length
  | [], _ => by simp [bitsT]
  | z :: zs, h => by
    have hz := bounds_u8 (h z (by simp))
    have := (len_bd (c := z.toNat) (by omega)).2
    have := bitsT_length zs (fun x hx => h x (by simp [hx]))
    rw [bitsT_cons, List.length_append, bitsOf_length, List.length_cons]
    omega

/-- how many 1s are missing -/
def miss (n : Nat) : Nat := (8 - n % 8) % 8
def pad (l : List Nat) : List Nat := l ++ List.replicate (miss l.length) 1
theorem pad_length (l : List Nat) : (pad l).length = 8 * ((l.length + 7) / 8) := by
  simp only [pad, List.length_append, List.length_replicate, miss]; omega
theorem pad_bits {l : List Nat} (h : Bits l) : Bits (pad l) := h.append (bits_ones _)
/-- a text's bytes -/
def enc (zs : List Int) : List Int := grp (pad (bitsT zs))
def sizeT (zs : List Int) : Nat := ((bitsT zs).length + 7) / 8
theorem enc_length (zs : List Int) : (enc zs).length = sizeT zs := grp_length _ _ (pad_length _)
theorem enc_fit (zs : List Int) : Fit .u8 (enc zs) := grp_fit _ _ (pad_length _) (pad_bits (bitsT_bits _))
theorem bitsB_enc (zs : List Int) : bitsB (enc zs) = pad (bitsT zs) := bitsB_grp _ _ (pad_length _) (pad_bits (bitsT_bits _))
theorem sizeT_le (zs : List Int) (h : Fit .u8 zs) : sizeT zs ≤ 4 * zs.length := by
  have := bitsT_length zs h
  unfold sizeT; omega

/-- what bits are the text of: what has come out, and the bits that wait -/
def dec (most : Int) : List Nat → List Int → Nat → Nat → List Int × Int
  | [], out, n, k => if n ≤ 7 ∧ k + 1 = 2 ^ n then (out, 0) else ([], 3)
  | b :: bs, out, n, k =>
    match look (n + 1) (2 * k + b) with
    | none => dec most bs out (n + 1) (2 * k + b)
    | some c => if c = 256 then ([], 3) else if most ≤ out.length then ([], 4) else dec most bs (out ++ [(c : Int)]) 0 0
def decB (most : Int) (zs : List Int) : List Int × Int := dec most (bitsB zs) [] 0 0
theorem dec_none {most : Int} {b : Nat} {bs : List Nat} {out : List Int} {n k : Nat} (h : look (n + 1) (2 * k + b) = none) : dec most (b :: bs) out n k = dec most bs out (n + 1) (2 * k + b) := by rw [dec, h]
theorem dec_some {most : Int} {b : Nat} {bs : List Nat} {out : List Int} {n k c : Nat} (h : look (n + 1) (2 * k + b) = some c) :
    dec most (b :: bs) out n k = if c = 256 then ([], 3) else if most ≤ out.length then ([], 4) else dec most bs (out ++ [(c : Int)]) 0 0 := by rw [dec, h]

/-- the text that comes out, its bits, and 1s, are the bits -/
theorem dec_back : ∀ {most : Int} {bs : List Nat} {out : List Int} {n k : Nat} {t : List Int}, Bits bs → dec most bs out n k = (t, 0) → Fit .u8 out → ((out.length : Int) ≤ max most 0) →
    ∃ j, j ≤ 7 ∧ bitsT out ++ bitsOf n k ++ bs = bitsT t ++ List.replicate j 1 ∧ Fit .u8 t ∧ (t.length : Int) ≤ max most 0
  | most, [], out, n, k, t, _, h, hf, hm => by
    rw [dec] at h
    by_cases hc : n ≤ 7 ∧ k + 1 = 2 ^ n
    · rw [if_pos hc] at h
      cases h
      refine ⟨n, hc.1, ?_, hf, hm⟩
      rw [← ones_eq, ← hc.2, List.append_nil, Nat.add_sub_cancel]
    · rw [if_neg hc] at h
      simp at h
  | most, b :: bs, out, n, k, t, hb, h, hf, hm => by
    have hb1 := hb b (by simp)
    have hb2 : Bits bs := fun x hx => hb x (by simp [hx])
    cases e : look (n + 1) (2 * k + b) with
    | none =>
      rw [dec_none e] at h
      obtain ⟨j, h1, h2, h3⟩ := dec_back hb2 h hf hm
      refine ⟨j, h1, ?_, h3⟩
      rw [bitsOf_snoc hb1] at h2
      rw [← h2]; simp
    | some c =>
      obtain ⟨hc, hl, hk⟩ := look_of e
      rw [dec_some e] at h
      by_cases h256 : c = 256
      · rw [if_pos h256] at h; simp at h
      · rw [if_neg h256] at h
        by_cases hm2 : most ≤ out.length
        · rw [if_pos hm2] at h; simp at h
        · rw [if_neg hm2] at h
          have hf2 : Fit .u8 (out ++ [(c : Int)]) := by
            intro x hx
            rcases List.mem_append.1 hx with hx | hx
            · exact hf x hx
            · rw [List.mem_singleton] at hx
              rw [hx]
              exact WalkArith.wf_u8 (by omega)
          obtain ⟨j, h1, h2, h3⟩ := dec_back hb2 h hf2 (by simp; omega)
          refine ⟨j, h1, ?_, h3⟩
          rw [bitsT_snoc, Int.toNat_natCast, hl, hk, bitsOf_snoc hb1] at h2
          rw [← h2]
          simp [bitsOf]
theorem dec_err {most : Int} {bs : List Nat} {out : List Int} {n k : Nat} : (dec most bs out n k).2 ≠ 0 → (dec most bs out n k).1 = [] := by
  induction bs generalizing out n k with
  | nil =>
    rw [dec]
    split <;> simp
  | cons b bs ih =>
    cases e : look (n + 1) (2 * k + b) with
    | none => rw [dec_none e]; exact ih
    | some c =>
      rw [dec_some e]
      split
      · simp
      · split
        · simp
        · exact ih

/-- the first bits of a code are none -/
theorem dec_walk {most : Int} {d : Nat} (hd : d < 257) : ∀ {i : Nat} {bs : List Nat} {out : List Int}, i < len d → dec most ((bitsOf (len d) (code d)).take i ++ bs) out 0 0 = dec most bs out i (code d / 2 ^ (len d - i))
  | 0, bs, out, _ => by
    rw [Nat.sub_zero, Nat.div_eq_of_lt (code_lt hd)]; rfl
  | i + 1, bs, out, h => by
    have hg := bitsOf_get (n := len d) (k := code d) (i := i) (by omega)
    have hl := bitsOf_length (len d) (code d)
    have ht : (bitsOf (len d) (code d)).take (i + 1) = (bitsOf (len d) (code d)).take i ++ [code d / 2 ^ (len d - 1 - i) % 2] := by
      rw [List.take_succ_eq_append_getElem (by omega), ← hg]
      simp [show i < (bitsOf (len d) (code d)).length by omega]
    rw [ht, List.append_assoc, dec_walk hd (by omega), List.singleton_append]
    have he : 2 * (code d / 2 ^ (len d - i)) + code d / 2 ^ (len d - 1 - i) % 2 = code d / 2 ^ (len d - (i + 1)) := by
      rw [show len d - i = (len d - (i + 1)) + 1 by omega, Nat.pow_succ, ← Nat.div_div_eq_div_mul, show len d - 1 - i = len d - (i + 1) by omega]
      omega
    rw [dec_none, he]
    rw [he]
    cases e : look (i + 1) (code d / 2 ^ (len d - (i + 1))) with
    | none => rfl
    | some c =>
      obtain ⟨hc, h1, h2⟩ := look_of e
      have := begins hc hd (by omega) (by rw [h1]; exact h2)
      subst this
      omega
/-- a whole code is its byte -/
theorem dec_code {most : Int} {d : Nat} (hd : d < 256) {bs : List Nat} {out : List Int} : dec most (bitsOf (len d) (code d) ++ bs) out 0 0 = if most ≤ out.length then ([], 4) else dec most bs (out ++ [(d : Int)]) 0 0 := by
  have hb := len_bd (c := d) (by omega)
  have hl := bitsOf_length (len d) (code d)
  have ht : bitsOf (len d) (code d) = (bitsOf (len d) (code d)).take (len d - 1) ++ [code d % 2] := by
    obtain ⟨m, hm⟩ : ∃ m, len d = m + 1 := ⟨len d - 1, by omega⟩
    rw [hm, bitsOf, show m + 1 - 1 = m by omega, List.take_left' (bitsOf_length _ _)]
  rw [ht, List.append_assoc, dec_walk (by omega) (by omega), List.singleton_append]
  have he : 2 * (code d / 2 ^ (len d - (len d - 1))) + code d % 2 = code d := by
    rw [show len d - (len d - 1) = 1 by omega]; omega
  rw [dec_some (c := d), if_neg (by omega)]
  rw [he, show len d - 1 + 1 = len d by omega]
  exact look_is (by omega)
/-- a whole text comes back -/
theorem dec_text {most : Int} : ∀ {zs : List Int} {bs : List Nat} {out : List Int}, Fit .u8 zs → (out.length : Int) + zs.length ≤ most → dec most (bitsT zs ++ bs) out 0 0 = dec most bs (out ++ zs) 0 0
  | [], bs, out, _, _ => by simp [bitsT]
  | z :: zs, bs, out, hf, hm => by
    have hz := bounds_u8 (hf z (by simp))
    have hm' : (out.length : Int) + (zs.length + 1) ≤ most := by simpa using hm
    rw [bitsT_cons, List.append_assoc, dec_code (by omega), if_neg (by omega), dec_text (fun x hx => hf x (by simp [hx])) (by simp; omega), List.append_assoc, Int.toNat_of_nonneg hz.1]
    rfl
/-- 1s, fewer than the end's code has, are none -/
theorem dec_ones {most : Int} {n : Nat} (h : n < 30) {out : List Int} : dec most (List.replicate n 1) out 0 0 = if n ≤ 7 then (out, 0) else ([], 3) := by
  have hw := dec_walk (most := most) (d := 256) (by omega) (i := n) (bs := []) (out := out) (by rw [len_end]; exact h)
  rw [len_end, code_end, show (1073741823 : Nat) = 2 ^ 30 - 1 from rfl, ones_eq, List.take_replicate, Nat.min_eq_left (by omega), List.append_nil] at hw
  rw [hw, dec]
  have he : (2 ^ 30 - 1) / 2 ^ (30 - n) + 1 = 2 ^ n := by
    have hp : 0 < 2 ^ (30 - n) := Nat.pow_pos (by omega)
    have hn : 0 < 2 ^ n := Nat.pow_pos (by omega)
    have e : (2 : Nat) ^ 30 = 2 ^ n * 2 ^ (30 - n) := by rw [← Nat.pow_add]; congr 1; omega
    have : (2 ^ 30 - 1) / 2 ^ (30 - n) = 2 ^ n - 1 := by
      rw [e]
      rw [Nat.div_eq_iff hp]
      have e2 : (2 ^ n - 1) * 2 ^ (30 - n) + 2 ^ (30 - n) = 2 ^ n * 2 ^ (30 - n) := by
        rw [← Nat.add_one_mul, Nat.sub_add_cancel hn]
      omega
    omega
  simp [he]

theorem miss_lt (n : Nat) : miss n ≤ 7 := by unfold miss; omega
/-- there and back -/
theorem dec_enc {most : Int} {zs : List Int} (hf : Fit .u8 zs) (hm : (zs.length : Int) ≤ most) : decB most (enc zs) = (zs, 0) := by
  have := miss_lt (bitsT zs).length
  rw [decB, bitsB_enc, pad, dec_text hf (by simpa using hm), dec_ones (by omega), if_pos this, List.nil_append]
theorem dec_enc255 {most : Int} {zs : List Int} (hf : Fit .u8 zs) (hm : (zs.length : Int) ≤ most) : decB most (enc zs ++ [255]) = ([], 3) := by
  have := miss_lt (bitsT zs).length
  have e : bitsB [255] = List.replicate 8 1 := by decide
  rw [decB, bitsB_append, bitsB_enc, pad, List.append_assoc, e, List.replicate_append_replicate, dec_text hf (by simpa using hm), dec_ones (by omega), if_neg (by omega)]
theorem enc_dec {most : Int} {zs t : List Int} (hf : Fit .u8 zs) (h : decB most zs = (t, 0)) : enc t = zs ∧ Fit .u8 t ∧ (t.length : Int) ≤ max most 0 := by
  obtain ⟨j, h1, h2, h3, h4⟩ := dec_back (bitsB_bits zs) h (by intro x hx; simp at hx) (by simp; omega)
  refine ⟨?_, h3, h4⟩
  rw [bitsT_nil, List.nil_append, bitsOf, List.nil_append] at h2
  have hl := congrArg List.length h2
  rw [bitsB_length, List.length_append, List.length_replicate] at hl
  have hj : j = miss (bitsT t).length := by unfold miss; omega
  rw [enc, pad, ← hj, ← h2, grp_bitsB zs hf]
theorem decB_fit {most : Int} {zs : List Int} (hf : Fit .u8 zs) : Fit .u8 (decB most zs).1 := by
  by_cases h : (decB most zs).2 = 0
  · exact (enc_dec (t := (decB most zs).1) hf (by rw [← h])).2.1
  · rw [decB] at h ⊢
    rw [dec_err h]
    intro x hx; simp at hx
end Go.Proofs.YtenapfpkegoonaaDoor

/-
  Layer 4, plain mathematics: the codes as loops make them. No program is named here.
-/
namespace Go.Proofs.YtenapfpkegoonaaDoor
open Go.RowKit

theorem if_same {p q : Prop} [Decidable p] [Decidable q] (h : p ↔ q) (a b : Int) : (if p then a else b) = if q then a else b := by
  by_cases hp : p
  · rw [if_pos hp, if_pos (h.1 hp)]
  · rw [if_neg hp, if_neg (fun hq => hp (h.2 hq))]

/-- the codes as a loop makes them: those of lengths below n, and of length n those ahead of c -/
def arrAt (n c : Nat) : List Int := (List.range 257).map fun x => if len x < n ∨ (len x = n ∧ x < c) then (code x : Int) else 0
/-- the next code there -/
def nextAt (n c : Nat) : Nat := nextN.getD n 0 + (lenN.take c).countP (fun x => x == n)
theorem arrAt_length (n c : Nat) : (arrAt n c).length = 257 := by simp [arrAt]
theorem arrAt_low {n : Nat} (h : n ≤ 5) : arrAt n 0 = List.replicate 257 0 := by
  rw [List.eq_replicate_iff]
  refine ⟨arrAt_length _ _, fun b hb => ?_⟩
  obtain ⟨x, hx, rfl⟩ := List.mem_map.1 hb
  have := (len_bd (List.mem_range.1 hx)).1
  exact if_neg (by omega)
theorem arrAt_skip {n c : Nat} (h : len c ≠ n) : arrAt n (c + 1) = arrAt n c := by
  apply List.ext_getElem (by simp [arrAt])
  intro i h1 h2
  simp only [arrAt, List.getElem_map, List.getElem_range]
  by_cases he : i = c
  · subst he
    exact if_same (by omega) _ _
  · exact if_same (by omega) _ _
theorem arrAt_set {n c : Nat} (h : len c = n) : (arrAt n c).set c (code c : Int) = arrAt n (c + 1) := by
  apply List.ext_getElem (by simp [arrAt])
  intro i h1 h2
  rw [List.getElem_set]
  simp only [arrAt, List.getElem_map, List.getElem_range]
  by_cases he : c = i
  · subst he
    rw [if_pos rfl, if_pos (by omega)]
  · rw [if_neg he]
    exact if_same (by omega) _ _
theorem arrAt_row (n : Nat) : arrAt n 257 = arrAt (n + 1) 0 := by
  apply List.ext_getElem (by simp [arrAt])
  intro i h1 h2
  have hi : i < 257 := by simpa [arrAt] using h1
  simp only [arrAt, List.getElem_map, List.getElem_range]
  exact if_same (by omega) _ _
def codeL : List Int := (List.range 257).map fun x => (code x : Int)
def lenL : List Int := (List.range 257).map fun x => (len x : Int)
theorem codeL_length : codeL.length = 257 := by simp [codeL]
theorem lenL_length : lenL.length = 257 := by simp [lenL]
theorem codeL_at {c : Nat} (h : c < 257) : at0 codeL c = (code c : Int) := by simp [at0, codeL, h]
theorem lenL_at {c : Nat} (h : c < 257) : at0 lenL c = (len c : Int) := by simp [at0, lenL, h]
theorem arrAt_end : arrAt 31 0 = codeL := by
  apply List.ext_getElem (by simp [arrAt, codeL])
  intro i h1 h2
  have hi : i < 257 := by simpa [arrAt] using h1
  have := (len_bd hi).2
  simp [arrAt, codeL, show len i < 31 by omega]
theorem nextAt_skip {n c : Nat} (hc : c < 257) (h : len c ≠ n) : nextAt n (c + 1) = nextAt n c := by
  have hl : c < lenN.length := by rw [lenN_length]; exact hc
  have e : lenN[c] = len c := by simp [len, hl]
  unfold nextAt
  rw [List.take_succ_eq_append_getElem hl, List.countP_append, e]
  simp [h]
theorem nextAt_set {n c : Nat} (hc : c < 257) (h : len c = n) : nextAt n (c + 1) = nextAt n c + 1 := by
  have hl : c < lenN.length := by rw [lenN_length]; exact hc
  have e : lenN[c] = len c := by simp [len, hl]
  unfold nextAt
  rw [List.take_succ_eq_append_getElem hl, List.countP_append, e]
  simp [h, Nat.add_assoc]
theorem next_rows : (List.range 31).all (fun n => nextAt (n + 1) 0 == 2 * nextAt n 257) = true := by decide +kernel
theorem nextAt_row {n : Nat} (h : n ≤ 30) : nextAt (n + 1) 0 = 2 * nextAt n 257 := by
  have := List.all_eq_true.1 next_rows n (List.mem_range.2 (by omega))
  simpa using this
theorem next_codes : (List.range 257).all (fun c => nextAt (len c) c == code c) = true := by decide +kernel
theorem nextAt_code {c : Nat} (h : c < 257) : nextAt (len c) c = code c := by
  have := List.all_eq_true.1 next_codes c (List.mem_range.2 h)
  simpa using this
theorem next_all : (List.range 32).all (fun n => Nat.ble (nextN.getD n 0) 2147483648) = true := by decide +kernel
theorem nextAt_le {n : Nat} (h : n ≤ 31) (c : Nat) : nextAt n c ≤ 2147483905 := by
  have := List.all_eq_true.1 next_all n (List.mem_range.2 (by omega))
  have h2 := List.countP_le_length (p := fun x => x == n) (l := lenN.take c)
  have h3 : (lenN.take c).length ≤ 257 := by rw [List.length_take, lenN_length]; omega
  simp only [Nat.ble_eq] at this
  unfold nextAt
  omega
theorem nextAt_low : nextAt 1 0 = 0 ∧ nextAt 5 0 = 0 := by decide +kernel
theorem lenL_list : lenL = lenN.map (fun (x : Nat) => (x : Int)) := by decide +kernel

end Go.Proofs.YtenapfpkegoonaaDoor

/-
  Layer 4, plain mathematics: bits that wait, byte by byte. No program is named here.
-/
namespace Go.Proofs.YtenapfpkegoonaaDoor
open Go.RowKit

theorem val_ones (n : Nat) : val (List.replicate n 1) = 2 ^ n - 1 := by
  have h := val_bitsOf n (2 ^ n - 1) (by have : 0 < 2 ^ n := Nat.pow_pos (by omega); omega)
  rwa [ones_eq] at h
/-- one byte more of the bits that wait -/
theorem byte_step {V m : Nat} {rest : List Nat} (hb : Bits rest) (hl : rest.length = m + 8) (hv : V % 2 ^ (m + 8) = val rest) : V / 2 ^ m % 256 = val (rest.take 8) ∧ V % 2 ^ m = val (rest.drop 8) := by
  have h1 : (rest.take 8).length = 8 := by simp; omega
  have h2 : (rest.drop 8).length = m := by simp; omega
  have e : val rest = val (rest.take 8) * 2 ^ m + val (rest.drop 8) := by
    conv => lhs; rw [← List.take_append_drop 8 rest]
    rw [val_append, h2]
  have b1 := val_lt _ (hb.take 8)
  have b2 := val_lt _ (hb.drop 8)
  rw [h1] at b1
  rw [h2] at b2
  have hp : 0 < 2 ^ m := Nat.pow_pos (by omega)
  have hV := Nat.div_add_mod V (2 ^ (m + 8))
  rw [hv, e, Nat.pow_add, show (2 : Nat) ^ 8 = 256 from rfl, Nat.mul_assoc] at hV
  obtain ⟨q, hq⟩ : ∃ q, V / (2 ^ m * 256) = q := ⟨_, rfl⟩
  rw [hq] at hV
  have hV2 : V = 2 ^ m * (256 * q + val (rest.take 8)) + val (rest.drop 8) := by
    rw [Nat.mul_add, Nat.mul_comm (2 ^ m) (val (rest.take 8)), Nat.add_assoc]
    exact hV.symm
  constructor
  · rw [hV2, Nat.mul_add_div hp, Nat.div_eq_of_lt b2]
    omega
  · rw [hV2, Nat.mul_add_mod, Nat.mod_eq_of_lt b2]
/-- the bits of one text more -/
theorem wait_more {x L c : Nat} {rest : List Nat} (hx : x = val rest) (hc : c < 2 ^ L) : x * 2 ^ L + c = val (rest ++ bitsOf L c) := by
  rw [val_append, bitsOf_length, val_bitsOf _ _ hc, hx]
/-- the last byte -/
theorem enc_last {zs : List Int} {done rest : List Nat} {m : Nat} (h : bitsT zs = done ++ rest) (hd : done.length = 8 * m) (h0 : 0 < rest.length) (h7 : rest.length ≤ 7) :
    enc zs = grp done ++ [((val rest * 2 ^ (8 - rest.length) + (2 ^ (8 - rest.length) - 1) : Nat) : Int)] := by
  have hm : miss (bitsT zs).length = 8 - rest.length := by rw [h, List.length_append, hd]; unfold miss; omega
  have hl : (rest ++ List.replicate (8 - rest.length) 1).length = 8 := by rw [List.length_append, List.length_replicate]; omega
  rw [enc, pad, hm, h, List.append_assoc, grp_append m _ _ hd, grp_one hl, val_append, val_ones, List.length_replicate]
theorem enc_done {zs : List Int} {done rest : List Nat} {m : Nat} (h : bitsT zs = done ++ rest) (hd : done.length = 8 * m) (h0 : rest.length = 0) : enc zs = grp done := by
  obtain rfl := List.eq_nil_of_length_eq_zero h0
  have hm : miss (bitsT zs).length = 0 := by rw [h, List.length_append, hd]; unfold miss; simp
  rw [enc, pad, hm, h]
  simp
theorem val_take_succ {l : List Nat} {k : Nat} (h : k < l.length) : val (l.take (k + 1)) = 2 * val (l.take k) + l.getD k 0 := by
  rw [List.take_succ_eq_append_getElem h, val_snoc]
  simp [h]
theorem grp_take {P : List Nat} {m n : Nat} (hl : P.length = 8 * n) (h : m < n) : grp (P.take (8 * (m + 1))) = grp (P.take (8 * m)) ++ [((val ((P.drop (8 * m)).take 8) : Nat) : Int)] := by
  have e : P.take (8 * (m + 1)) = P.take (8 * m) ++ (P.drop (8 * m)).take 8 := by
    rw [show 8 * (m + 1) = 8 * m + 8 by omega, List.take_add]
  have h1 : (P.take (8 * m)).length = 8 * m := by rw [List.length_take]; omega
  have h2 : ((P.drop (8 * m)).take 8).length = 8 := by rw [List.length_take, List.length_drop]; omega
  rw [e, grp_append m _ _ h1, grp_one h2]
theorem getD_drop_take (P : List Nat) (a k n : Nat) (h : k < n) : ((P.drop a).take n).getD k 0 = P.getD (a + k) 0 := by
  simp [List.getD, h]

/-- numbers as Go's: a shift to the left, a join below, a mask, a byte -/
theorem pow_le40 {L : Nat} (h : L ≤ 40) : 2 ^ L ≤ 1099511627776 := Nat.pow_le_pow_right (n := 2) (by omega) h
theorem shl_small {x L : Nat} (hx : x < 256) (hL : L ≤ 30) : IntKind.i64.wrap ((x : Int) * 2 ^ L) = ((x * 2 ^ L : Nat) : Int) := by
  have h1 : 2 ^ L ≤ 1073741824 := Nat.pow_le_pow_right (by omega : 2 > 0) hL
  have h2 : x * 2 ^ L ≤ 255 * 1073741824 := Nat.mul_le_mul (by omega) h1
  have e : (x : Int) * 2 ^ L = ((x * 2 ^ L : Nat) : Int) := by push_cast; rfl
  rw [e]
  exact wrap_i64_small (by omega) (by omega)
theorem or_small {x L c : Nat} (hx : x < 256) (hL : L ≤ 30) (hc : c < 2 ^ L) : bits .or .i64 ((x * 2 ^ L : Nat) : Int) (c : Int) = ((x * 2 ^ L + c : Nat) : Int) := by
  have h1 : 2 ^ L ≤ 1073741824 := Nat.pow_le_pow_right (by omega : 2 > 0) hL
  have h2 : x * 2 ^ L ≤ 255 * 1073741824 := Nat.mul_le_mul (by omega) h1
  have hm : ((x * 2 ^ L : Nat) : Int) % 2 ^ L = 0 := by
    have : (2 : Int) ^ L = ((2 ^ L : Nat) : Int) := by push_cast; rfl
    rw [this, ← Int.natCast_emod, Nat.mul_mod_left]
    rfl
  have hc' : (c : Int) < 2 ^ L := by
    have : (2 : Int) ^ L = ((2 ^ L : Nat) : Int) := by push_cast; rfl
    rw [this]; omega
  rw [i64_join L _ _ (by omega) (by omega) hm (by omega) hc' (by omega)]
  omega
theorem mask_small {V n : Nat} (hV : V < 1099511627776) (hn : n ≤ 30) : bits .and .i64 (V : Int) (((2 ^ n - 1 : Nat) : Int)) = ((V % 2 ^ n : Nat) : Int) := by
  have h1 : 2 ^ n ≤ 1073741824 := Nat.pow_le_pow_right (by omega : 2 > 0) hn
  rw [i64_and _ _ (by omega) (by omega) (by omega) (by omega), Int.toNat_natCast, Int.toNat_natCast, Nat.and_two_pow_sub_one_eq_mod]
end Go.Proofs.YtenapfpkegoonaaDoor

/-
  A range over a function whose iterator says of each thing that it hands on something of the world at that moment. No program is named here.
-/
namespace Go.Proofs.YtenapfpkegoonaaDoor
open Go.RowKit

/-- it stays where what lay stays -/
def Grows {β : Type} (I : β → World → Prop) : Prop := ∀ s A B, I s A → Below A.heap.size A B → I s B
/-- it stays where a block that is no cells, from a number on, is turned -/
def Turns {β : Type} (b : Nat) (I : β → World → Prop) : Prop := ∀ s A l o o', I s A → b ≤ l → A.heap[l]? = some o → o.isCells = false → I s (A.putObj l o')
/-- what an iterator does, whatever the loop: it hands on things of which 'Y' holds there, behind those that came; at the end 'S' holds of all that came, or 'Sp', a round having said 'no more' -/
def SeqP {α : Type} (P : Program) (n : Nat) (g : Nat) (lb : Array Value) (encs : α → Array Value) (Y : List α → α → World → Prop) (Kp : World → World → Prop) (S Sp : List α → Prop) (N : Nat) (w : World) : Prop :=
  ∀ (l : Nat) (J Jx : List α → World → Prop) (W : World), Below w.heap.size w W → Grows J → Grows Jx →
    (∀ pre x W1, J pre W1 → Y pre x W1 → pre.length < N → YieldAt Fence.wide (n - 1) P l (encs x) W1 fun e W' => (e = .returned (.bool true) ∧ J (pre ++ [x]) W' ∧ Kp W1 W') ∨ (e = .returned (.bool false) ∧ Jx (pre ++ [x]) W')) →
    J [] W → CallsIn Fence.wide n P g (#[.func (.yield l) #[] #[]] ++ lb) W fun e W' => (∃ v, e = .returned v) ∧ ((∃ xs, S xs ∧ J xs W') ∨ ∃ pre, Sp pre ∧ Jx pre W')

theorem Grows.and {β : Type} {I I' : β → World → Prop} (h : Grows I) (h' : Grows I') : Grows (fun s W => I s W ∧ I' s W) := fun s A B hs hb => ⟨h s A B hs.1 hb, h' s A B hs.2 hb⟩
theorem below_put {B : Nat} (W : World) {l : Nat} (o o' : Obj) (hB : B ≤ l) (h : W.heap[l]? = some o) : Below B W (W.putObj l o') :=
  (Below.refl B W).grown (grownBy_putObj' W l o') (by have := (Array.getElem?_eq_some_iff.1 h).1; omega) (fun k e => by cases e; omega)

/-- **the loop 'for .. := range seq', by such a contract** -/
theorem range_seqP {α : Type} {P : Program} {n : Nat} {g : Operand} {ps : Array Tmp} {assign body : Code} {Q : Exit → Act → World → Prop} {a : Act} {w : World} {gf : Nat} {lb : Array Value}
    (hg : a.eval g = .func (.func gf) #[] lb) (eg : ∀ args w, (callFunc gf args).run P w = .ok (.enter gf args) w)
    {encs : α → Array Value} {Y : List α → α → World → Prop} {Kp : World → World → Prop} {S Sp : List α → Prop} {N : Nat} (hseq : SeqP P (n - 1) gf lb encs Y Kp S Sp N w) (hps : ∀ x, (encs x).size = ps.size)
    (hKt : ∀ {A B C : World}, Kp A B → Kp B C → Kp A C) (hKb : ∀ (W : World) (l : Nat) (o o' : Obj), w.heap.size ≤ l → W.heap[l]? = some o → o.isCells = false → Kp W (W.putObj l o'))
    (I : List α → World → Prop) (Ix : Code → List α → World → Prop) (Ax : List α → α → Act → World → Prop) (hIg : Grows I) (hIt : Turns w.heap.size I) (hXg : ∀ c, Grows (Ix c)) (hXt : ∀ c, Turns w.heap.size (Ix c)) (hAt : ∀ pre x a', Turns w.heap.size (fun (_ : Unit) W => Ax pre x a' W))
    (h0 : I [] w)
    (hassign : ∀ (l : Nat) (pre : List α) (x : α) (W : World) (K : Act → World → Prop), I pre W → Y pre x W → (∀ a' W', KeepsFrom w.heap.size W W' → Kp W W' → I pre W' → Ax pre x a' W' → K a' W') →
      assign.wpIn (Fence.wide.inRound l) (n - 1 - 1) P (Exit.then K (fun _ _ _ => False)) { tmps := (ps.zip (encs x)).foldl (fun t (p, v) => t.setIfInBounds p v) a.tmps, defers := [] } W)
    (hbody : ∀ (l : Nat) (pre : List α) (x : α) (a' : Act) (W : World), I pre W → Ax pre x a' W → pre.length < N → body.wpIn (Fence.wide.inRound l) (n - 1 - 1) P (ownPostG w.heap.size Kp I Ix (pre ++ [x]) W) a' W)
    (hdone : ∀ (D : Nat) (xs : List α) (W : World), w.heap.size ≤ D → S xs → I xs W → W.heap[D]? = some (.deferred (some [])) → Q .normal { a with defers := { target := .collected D, args := #[] } :: a.defers } W)
    (hstop : ∀ (D : Nat) (c : Code) (pre : List α) (W : World), w.heap.size ≤ D → Sp pre → Ix c pre W → W.heap[D]? = some (.deferred (some [])) → c.wpIn Fence.wide n P Q { a with defers := { target := .collected D, args := #[] } :: a.defers } W) :
    (Code.rangeFunc g ps assign body).wpIn Fence.wide n P Q a w := by
  refine wpIn_rangeFunc fun fn hfn => ?_
  -- the two blocks that the statement lays: for deferred calls, and its record
  let R : LoopState → Option Code → Loop := fun st pe => { state := st, pending := pe, fn, tmps := a.tmps, params := ps, assign, body, defers := w.heap.size }
  have hR : ∀ st pe, R st pe = { state := st, pending := pe, fn, tmps := a.tmps, params := ps, assign, body, defers := w.heap.size } := fun _ _ => rfl
  have hl1 : ((w.alloc (.deferred (some []))).alloc (.loop (R .ready none))).heap[w.heap.size + 1]? = some (.loop (R .ready none)) := heap_alloc2_new _ _ _
  have hk1 : ((w.alloc (.deferred (some []))).alloc (.loop (R .ready none))).heap[w.heap.size]? = some (.deferred (some [])) :=
    (Below.heap_alloc _ _ _ (by simp)).trans (heap_alloc_new _ _)
  have hb1 : Below w.heap.size w ((w.alloc (.deferred (some []))).alloc (.loop (R .ready none))) := ((Below.refl _ w).alloc (Nat.le_refl _) _).alloc (by simp) _
  have hrun := run_enterLoop_outer (P := P) (w := w) fn a.tmps ps assign body
  rw [← hR] at hrun
  obtain ⟨W1, hW1⟩ : ∃ W1, (w.alloc (.deferred (some []))).alloc (.loop (R .ready none)) = W1 := ⟨_, rfl⟩
  rw [hW1] at hl1 hk1 hb1 hrun
  clear hW1
  refine ⟨w.heap.size + 1, _, W1, { target := .fn (.func gf) lb, args := #[.func (.yield (w.heap.size + 1)) #[] #[]] }, W1, gf, #[.func (.yield (w.heap.size + 1)) #[] #[]] ++ lb, W1, hrun, ?_, fun _ _ => trivial, ?_, fun h => by simp [Fence.wide] at h, ?_⟩
  · simp only [resolve, hg]; simp [go_sem]
  · simp [invoke, go_sem, eg]
  refine (hseq (w.heap.size + 1) (fun pre W => (I pre W ∧ W.heap[w.heap.size + 1]? = some (.loop (R .ready none))) ∧ W.heap[w.heap.size]? = some (.deferred (some [])))
    (fun pre W => ∃ c, (Ix c pre W ∧ W.heap[w.heap.size + 1]? = some (.loop (R .done (some c)))) ∧ W.heap[w.heap.size]? = some (.deferred (some []))) W1 hb1 ?_ ?_ ?_ ⟨⟨hIg _ _ _ h0 hb1, hl1⟩, hk1⟩).mono ?_
  · rintro s A B ⟨⟨hi, hl⟩, hk⟩ hb
    exact ⟨⟨hIg _ _ _ hi hb, (hb.block _ (Array.getElem?_eq_some_iff.1 hl).1).trans hl⟩, (hb.block _ (Array.getElem?_eq_some_iff.1 hk).1).trans hk⟩
  · rintro s A B ⟨c, ⟨hi, hl⟩, hk⟩ hb
    exact ⟨c, ⟨hXg c _ _ _ hi hb, (hb.block _ (Array.getElem?_eq_some_iff.1 hl).1).trans hl⟩, (hb.block _ (Array.getElem?_eq_some_iff.1 hk).1).trans hk⟩
  · -- one round
    rintro pre x W ⟨⟨hi, hl⟩, hk⟩ hy hlen
    have hr := run_yield (P := P) (args := encs x) hl (hps x)
    refine ⟨fn, _, assign, body, hr, roundIn_of_wpIn hfn (hassign _ pre x W _ hi hy ?_)⟩
    intro a' Wa hkf hkp hia hax
    have hla := hkf.same _ _ (by omega) hl rfl
    have hka := hkf.same _ _ (Nat.le_refl _) hk rfl
    have hlt := (Array.getElem?_eq_some_iff.1 hla).1
    refine ⟨_, run_beginRound hla rfl, ?_⟩
    have hlb : (Wa.putObj (w.heap.size + 1) (.loop (R .busy none))).heap[w.heap.size + 1]? = some (.loop (R .busy none)) := World.putObj_heap_same hlt
    have hkb : (Wa.putObj (w.heap.size + 1) (.loop (R .busy none))).heap[w.heap.size]? = some (.deferred (some [])) := (World.putObj_heap_other (by omega)).trans hka
    have hkpb : Kp Wa (Wa.putObj (w.heap.size + 1) (.loop (R .busy none))) := hKb _ _ _ _ (by omega) hla rfl
    refine wpIn_mono (hbody _ pre x a' _ (hIt _ _ _ _ _ hia (by omega) hla rfl) (hAt pre x a' () _ _ _ _ hax (by omega) hla rfl) hlen) ?_
    intro e a3 W3 hp
    have fin : KeepsFrom w.heap.size (Wa.putObj (w.heap.size + 1) (.loop (R .busy none))) W3 → ∀ jump : Option Code,
        (Instr.endRound (w.heap.size + 1) jump).run P W3 = .ok (.bool jump.isNone) (W3.putObj (w.heap.size + 1) (.loop (R (if jump.isNone then .ready else .done) jump))) ∧ W3.heap[w.heap.size + 1]? = some (.loop (R .busy none)) ∧
        (W3.putObj (w.heap.size + 1) (.loop (R (if jump.isNone then .ready else .done) jump))).heap[w.heap.size + 1]? = some (.loop (R (if jump.isNone then .ready else .done) jump)) ∧
        (W3.putObj (w.heap.size + 1) (.loop (R (if jump.isNone then .ready else .done) jump))).heap[w.heap.size]? = some (.deferred (some [])) := fun hk3 jump => by
      have hl3 := hk3.same _ _ (by omega) hlb rfl
      exact ⟨run_endRound (P := P) jump hl3, hl3, World.putObj_heap_same (Array.getElem?_eq_some_iff.1 hl3).1, (World.putObj_heap_other (by omega)).trans (hk3.same _ _ (Nat.le_refl _) hkb rfl)⟩
    cases e with
    | normal =>
      obtain ⟨hk3, hkp3, hi3⟩ := hp
      obtain ⟨hrn, hl3, hl4, hk4⟩ := fin hk3 none
      exact ⟨_, _, hrn, .inl ⟨rfl, ⟨⟨hIt _ _ _ _ _ hi3 (by omega) hl3 rfl, hl4⟩, hk4⟩, hKt hkp (hKt (hKt hkpb hkp3) (hKb _ _ _ _ (by omega) hl3 rfl))⟩⟩
    | ret =>
      obtain ⟨hk3, hi3⟩ := hp
      obtain ⟨hrn, hl3, hl4, hk4⟩ := fin hk3 (some .ret)
      exact ⟨_, _, hrn, .inr ⟨rfl, .ret, ⟨hXt _ _ _ _ _ _ hi3 (by omega) hl3 rfl, hl4⟩, hk4⟩⟩
    | exit id =>
      obtain ⟨hk3, hi3⟩ := hp
      obtain ⟨hrn, hl3, hl4, hk4⟩ := fin hk3 (some (.exit id))
      exact ⟨_, _, hrn, .inr ⟨rfl, .exit id, ⟨hXt _ _ _ _ _ _ hi3 (by omega) hl3 rfl, hl4⟩, hk4⟩⟩
    | goto t =>
      obtain ⟨hk3, hi3⟩ := hp
      obtain ⟨hrn, hl3, hl4, hk4⟩ := fin hk3 (some (.goto t))
      exact ⟨_, _, hrn, .inr ⟨rfl, .goto t, ⟨hXt _ _ _ _ _ _ hi3 (by omega) hl3 rfl, hl4⟩, hk4⟩⟩
    | panic ch => exact hp.elim
    | outgrown => exact hp.elim
  · -- behind the iterator
    rintro e W2 ⟨⟨v, rfl⟩, ⟨xs, hS, ⟨hi, hl⟩, hk⟩ | ⟨pre, hSp, c, ⟨hi, hl⟩, hk⟩⟩
    · exact ⟨none, _, run_endLoop (P := P) hl (by simp [hR]), hdone _ xs _ (Nat.le_refl _) hS (hIt _ _ _ _ _ hi (by omega) hl rfl) ((World.putObj_heap_other (by omega)).trans hk)⟩
    · exact ⟨some c, _, run_endLoop (P := P) hl (by simp [hR]), hstop _ c pre _ (Nat.le_refl _) hSp (hXt c _ _ _ _ _ hi (by omega) hl rfl) ((World.putObj_heap_other (by omega)).trans hk)⟩

/-- the same, where what is said of each thing hangs on it alone -/
def SeqY {α : Type} (P : Program) (n : Nat) (g : Nat) (lb : Array Value) (encs : α → Array Value) (Y : α → World → Prop) (Kp : World → World → Prop) (S Sp : List α → Prop) (N : Nat) (w : World) : Prop :=
  ∀ (l : Nat) (J Jx : List α → World → Prop) (W : World), Below w.heap.size w W → Grows J → Grows Jx →
    (∀ pre x W1, J pre W1 → Y x W1 → pre.length < N → YieldAt Fence.wide (n - 1) P l (encs x) W1 fun e W' => (e = .returned (.bool true) ∧ J (pre ++ [x]) W' ∧ Kp W1 W') ∨ (e = .returned (.bool false) ∧ Jx (pre ++ [x]) W')) →
    J [] W → CallsIn Fence.wide n P g (#[.func (.yield l) #[] #[]] ++ lb) W fun e W' => (∃ v, e = .returned v) ∧ ((∃ xs, S xs ∧ J xs W') ∨ ∃ pre, Sp pre ∧ Jx pre W')
theorem range_seq {α : Type} {P : Program} {n : Nat} {g : Operand} {ps : Array Tmp} {assign body : Code} {Q : Exit → Act → World → Prop} {a : Act} {w : World} {gf : Nat} {lb : Array Value}
    (hg : a.eval g = .func (.func gf) #[] lb) (eg : ∀ args w, (callFunc gf args).run P w = .ok (.enter gf args) w)
    {encs : α → Array Value} {Y : α → World → Prop} {Kp : World → World → Prop} {S Sp : List α → Prop} {N : Nat} (hseq : SeqY P (n - 1) gf lb encs Y Kp S Sp N w) (hps : ∀ x, (encs x).size = ps.size)
    (hKt : ∀ {A B C : World}, Kp A B → Kp B C → Kp A C) (hKb : ∀ (W : World) (l : Nat) (o o' : Obj), w.heap.size ≤ l → W.heap[l]? = some o → o.isCells = false → Kp W (W.putObj l o'))
    (I : List α → World → Prop) (Ix : Code → List α → World → Prop) (Ax : α → Act → World → Prop) (hIg : Grows I) (hIt : Turns w.heap.size I) (hXg : ∀ c, Grows (Ix c)) (hXt : ∀ c, Turns w.heap.size (Ix c)) (hAt : ∀ x a', Turns w.heap.size (fun (_ : Unit) W => Ax x a' W))
    (h0 : I [] w)
    (hassign : ∀ (l : Nat) (pre : List α) (x : α) (W : World) (K : Act → World → Prop), I pre W → Y x W → (∀ a' W', KeepsFrom w.heap.size W W' → Kp W W' → I pre W' → Ax x a' W' → K a' W') →
      assign.wpIn (Fence.wide.inRound l) (n - 1 - 1) P (Exit.then K (fun _ _ _ => False)) { tmps := (ps.zip (encs x)).foldl (fun t (p, v) => t.setIfInBounds p v) a.tmps, defers := [] } W)
    (hbody : ∀ (l : Nat) (pre : List α) (x : α) (a' : Act) (W : World), I pre W → Ax x a' W → pre.length < N → body.wpIn (Fence.wide.inRound l) (n - 1 - 1) P (ownPostG w.heap.size Kp I Ix (pre ++ [x]) W) a' W)
    (hdone : ∀ (D : Nat) (xs : List α) (W : World), w.heap.size ≤ D → S xs → I xs W → W.heap[D]? = some (.deferred (some [])) → Q .normal { a with defers := { target := .collected D, args := #[] } :: a.defers } W)
    (hstop : ∀ (D : Nat) (c : Code) (pre : List α) (W : World), w.heap.size ≤ D → Sp pre → Ix c pre W → W.heap[D]? = some (.deferred (some [])) → c.wpIn Fence.wide n P Q { a with defers := { target := .collected D, args := #[] } :: a.defers } W) :
    (Code.rangeFunc g ps assign body).wpIn Fence.wide n P Q a w :=
  range_seqP (Y := fun _ => Y) hg eg hseq hps hKt hKb I Ix (fun _ => Ax) hIg hIt hXg hXt (fun _ => hAt) h0 hassign hbody hdone hstop

end Go.Proofs.YtenapfpkegoonaaDoor

/-
  huff.eachBit: what it ranges over.
-/
namespace Go.Proofs.YtenapfpkegoonaaDoor
open Go.RowKit
attribute [local go_sem] Oper.semAt_some

theorem eachBit_any (v : Value) (w : World) (ao : Option Addr) (n c : Nat) (hv : v = .slice ao n c) :
    Calls Tryd.prog 108 #[v] w fun e w' => e = .returned (.func (.func 111) #[] #[.pointer (some ⟨w.heap.size, 0, none⟩)]) ∧ w' = w.alloc (.cells #[v] 30) := by
  subst hv
  go_enter Tryd.func108, Tryd.ntmps108
  go_wp2
  go_ret
  exact ⟨rfl, rfl⟩

/-- all bits have come; or some of them -/
def AllBits (zs : List Int) (xs : List Nat) : Prop := xs = bitsB zs
def SomeBits (zs : List Int) (xs : List Nat) : Prop := ∃ m, m < 8 * zs.length ∧ xs = (bitsB zs).take (m + 1)
theorem bit_and {c p : Nat} (hc : c < 256) : bits .and .i64 ((c : Int) / 2 ^ p) 1 = ((c / 2 ^ p % 2 : Nat) : Int) := by
  have e : (c : Int) / 2 ^ p = ((c / 2 ^ p : Nat) : Int) := by push_cast; rfl
  have hle : c / 2 ^ p ≤ c := Nat.div_le_self _ _
  rw [e]
  generalize c / 2 ^ p = q at *
  rw [i64_and _ _ (by omega) (by omega) (by omega) (by omega), Int.toNat_natCast, show (1 : Int).toNat = 2 ^ 1 - 1 from rfl, Nat.and_two_pow_sub_one_eq_mod]
theorem div_bd {c p : Nat} (hc : c < 256) : 0 ≤ (c : Int) / 2 ^ p ∧ (c : Int) / 2 ^ p ≤ 255 := by
  have e : (c : Int) / 2 ^ p = ((c / 2 ^ p : Nat) : Int) := by push_cast; rfl
  have hle : c / 2 ^ p ≤ c := Nat.div_le_self _ _
  rw [e]
  generalize c / 2 ^ p = q at *
  omega
theorem bit_at {zs : List Int} {k p c : Nat} (hk : k < zs.length) (hp : p < 8) (hc : at0 zs k = (c : Int)) : (bitsB zs).getD (8 * k + (7 - p)) 0 = c / 2 ^ p % 2 := by
  rw [bitsB_at hk (by omega), hc, Int.toNat_natCast, bitsOf_get (by omega), show 8 - 1 - (7 - p) = p by omega]

set_option maxHeartbeats 1000000 in
theorem bits_iter (n : Nat) (l Bb n₀ : Nat) (v : Value) (zs : List Int) (J Jx : List Nat → World → Prop)
    (hY : ∀ (pre : List Nat) (x : Nat) (W1 : World), J pre W1 → x < 2 → pre.length < 8 * zs.length → YieldAt Fence.wide (n - 1) Tryd.prog l #[.int .i64 (x : Int)] W1 fun e W' =>
      (e = .returned (.bool true) ∧ J (pre ++ [x]) W' ∧ (Below n₀ W1 W' ∧ W'.heap[Bb]? = W1.heap[Bb]?)) ∨ (e = .returned (.bool false) ∧ Jx (pre ++ [x]) W'))
    (W0 W : World) (hn0 : W0.heap.size = n₀) (hv : Sl .u8 W0 v zs) (hz : zs.length ≤ 1000000) (hW0 : Below n₀ W0 W) (hb : W.heap[Bb]? = some (.cells #[v] 30 (0, 0))) (h0 : J [] W) :
    CallsIn Fence.wide n Tryd.prog 111 #[.func (.yield l) #[] #[], .pointer (some ⟨Bb, 0, none⟩)] W fun e W' => (∃ v, e = .returned v) ∧ ((∃ xs, AllBits zs xs ∧ J xs W') ∨ ∃ pre, SomeBits zs pre ∧ Jx pre W') := by
  subst hn0
  have hfit := hv.fit
  obtain ⟨a, cap, rfl, _⟩ := id hv
  refine callsIn_of_wp Tryd.func111 rfl trivial ?_ rfl
  simp only [Tryd.ntmps111, List.size_toArray, List.length_cons, List.length_nil, Nat.reduceAdd, Nat.reduceSub, Array.replicate_succ, Array.replicate_zero, List.push_toArray, List.append_toArray, List.nil_append, List.cons_append]
  have cb := blk_cell (j := 0) hb rfl
  gi_wp2
  gi_loopw [8] (fun i wr => ∃ k : Nat, i = .int .i64 k ∧ k ≤ zs.length ∧ J ((bitsB zs).take (8 * k)) wr ∧ Below W0.heap.size W0 wr ∧ wr.heap[Bb]? = some (.cells #[.slice a zs.length cap] 30 (0, 0)))
    (fun i _ => zs.length - (intOf i).toNat)
  case atStart => exact ⟨0, rfl, Nat.zero_le _, by simpa using h0, hW0, hb⟩
  case round =>
    clear hb hW0 h0 cb
    obtain ⟨k, rfl, hk, hJ, hB, hbb⟩ := hrel
    by_cases hlt : k < zs.length
    · obtain ⟨b, off, rfl, hbs, hcx⟩ : ∃ b off, a = some ⟨b, off, none⟩ ∧ b < W0.heap.size ∧ W0.cell? ⟨b, off + k, none⟩ = some (.int .u8 (at0 zs k)) := by
        rcases hv.parts with ⟨h0, _⟩ | ⟨_, b, off, c2, he, _, _, h1, h2⟩
        · rw [h0] at hlt; simp at hlt
        · simp only [Value.slice.injEq] at he
          exact ⟨b, off, he.1, h1, h2 k hlt⟩
      have hcx2 := (hB.cell (p := ⟨b, off + k, none⟩) hbs).trans hcx
      have hbz := hfit.byte k
      obtain ⟨c, hcc⟩ : ∃ c : Nat, at0 zs k = (c : Int) := ⟨(at0 zs k).toNat, by omega⟩
      rw [hcc] at hcx2 hbz
      have HC := Lib.hid hcc
      have hc256 : c < 256 := by omega
      clear hcx hcc
      gi_wp2
      gi_loopw [5] (fun i wr => ∃ q : Nat, i = .int .i64 ((q : Int) - 1) ∧ q ≤ 8 ∧ J ((bitsB zs).take (8 * k + (8 - q))) wr ∧ Below W0.heap.size W0 wr ∧ wr.heap[Bb]? = some (.cells #[.slice (some ⟨b, off, none⟩) zs.length cap] 30 (0, 0)))
        (fun i _ => (intOf i + 1).toNat)
      case atStart => exact ⟨8, rfl, Nat.le_refl _, hJ, hB, hbb⟩
      case round =>
        clear hJ hB hbb hcx2
        obtain ⟨q, rfl, hq8, hJ, hB, hbb⟩ := hrel
        cases q with
        | zero =>
          gi_wp2
          go_roundw
          case rel => exact ⟨k + 1, by go_num, by omega, hJ, hB, hbb⟩
          case measure => simp [intOf]; omega
        | succ p =>
          have e1 : ((p + 1 : Nat) : Int) - 1 = (p : Int) := by omega
          rw [e1]
          have hp7 : p ≤ 7 := by omega
          have hbit := bit_and (c := c) (p := p) hc256
          have hx2 : c / 2 ^ p % 2 < 2 := Nat.mod_lt _ (by omega)
          have hbl : 8 * k + (7 - p) < (bitsB zs).length := by rw [bitsB_length]; omega
          have hget := bit_at hlt (by omega : p < 8) HC.out
          have htk : Hid ((bitsB zs).take (8 * k + (8 - p)) = (bitsB zs).take (8 * k + (8 - (p + 1))) ++ [c / 2 ^ p % 2]) := by
            show _ = _
            rw [show 8 * k + (8 - p) = 8 * k + (7 - p) + 1 by omega, show 8 * k + (8 - (p + 1)) = 8 * k + (7 - p) by omega, List.take_succ_eq_append_getElem hbl, ← hget]
            simp [hbl]
          have hll : ((bitsB zs).take (8 * k + (8 - (p + 1)))).length < 8 * zs.length := by rw [List.length_take, bitsB_length]; omega
          obtain ⟨fn, tmps, assign, body, hy, hR⟩ := hY _ _ wr hJ hx2 hll
          rw [← hbit] at hy
          have hq := div_bd (c := c) (p := p) hc256
          clear hbit hget hx2 hJ
          gi_wp2
          refine ⟨fun h => by simp [Fence.wide] at h, ?_⟩
          refine hR.mono ?_
          rintro e W5 (⟨rfl, hJ5, hk5⟩ | ⟨rfl, hJx5⟩)
          · gi_wp2
            go_roundw
            case rel => exact ⟨p, by go_num, by omega, by rw [htk.out]; exact hJ5, hB.trans hk5.1, hk5.2.trans hbb⟩
            case measure => simp [intOf]
          · gi_wp2
            refine bodyPost_ret (results_none rfl _ _ _) rfl ?_
            refine ⟨⟨_, rfl⟩, .inr ⟨_, ⟨8 * k + (7 - p), by omega, ?_⟩, hJx5⟩⟩
            rw [← htk.out, show 8 * k + (8 - p) = 8 * k + (7 - p) + 1 by omega]
    · obtain rfl : k = zs.length := by omega
      gi_wp2
      go_end0
      refine ⟨⟨_, rfl⟩, .inl ⟨_, ?_, hJ⟩⟩
      show _ = _
      rw [List.take_of_length_le (by rw [bitsB_length]; omega)]

theorem bits_seq (n Bb : Nat) (v : Value) (zs : List Int) (W0 w : World) (hv : Sl .u8 W0 v zs) (hz : zs.length ≤ 1000000) (hW0 : Below W0.heap.size W0 w) (hb : w.heap[Bb]? = some (.cells #[v] 30 (0, 0))) :
    SeqY Tryd.prog n 111 #[.pointer (some ⟨Bb, 0, none⟩)] (fun x : Nat => #[.int .i64 (x : Int)]) (fun x _ => x < 2)
      (fun A B => Below W0.heap.size A B ∧ B.heap[Bb]? = A.heap[Bb]?) (AllBits zs) (SomeBits zs) (8 * zs.length) w := fun l J Jx W hW _ _ hY h0 =>
  bits_iter n l Bb _ v zs J Jx hY W0 W rfl hv hz (hW0.trans (hW.mono hW0.size)) ((hW.block Bb (Array.getElem?_eq_some_iff.1 hb).1).trans hb) h0

end Go.Proofs.YtenapfpkegoonaaDoor

/-
  The small calls of package huff: has, length, step, isFilling.
-/
namespace Go.Proofs.YtenapfpkegoonaaDoor
open Go.RowKit

/-- the text in which the lengths stand, as the program has it -/
def lensStr : ByteArray := { data := ((((([49, 51, 32, 50, 51, 32, 50, 56, 32, 50, 56, 32, 50, 56, 32, 50, 56, 32, 50, 56, 32, 50, 56, 32, 50, 56, 32, 50, 52, 32, 51, 48, 32, 50, 56, 32, 50, 56, 32, 51, 48, 32, 50, 56, 32, 50, 56, 32].append [50, 56, 32, 50, 56, 32, 50, 56, 32, 50, 56, 32, 50, 56, 32, 50, 56, 32, 51, 48, 32, 50, 56, 32, 50, 56, 32, 50, 56, 32, 50, 56, 32, 50, 56, 32, 50, 56, 32, 50, 56, 32, 50, 56, 32, 50, 56, 32]).append ([48, 54, 32, 49, 48, 32, 49, 48, 32, 49, 50, 32, 49, 51, 32, 48, 54, 32, 48, 56, 32, 49, 49, 32, 49, 48, 32, 49, 48, 32, 48, 56, 32, 49, 49, 32, 48, 56, 32, 48, 54, 32, 48, 54, 32, 48, 54, 32].append [48, 53, 32, 48, 53, 32, 48, 53, 32, 48, 54, 32, 48, 54, 32, 48, 54, 32, 48, 54, 32, 48, 54, 32, 48, 54, 32, 48, 54, 32, 48, 55, 32, 48, 56, 32, 49, 53, 32, 48, 54, 32, 49, 50, 32, 49, 48, 32])).append (([49, 51, 32, 48, 54, 32, 48, 55, 32, 48, 55, 32, 48, 55, 32, 48, 55, 32, 48, 55, 32, 48, 55, 32, 48, 55, 32, 48, 55, 32, 48, 55, 32, 48, 55, 32, 48, 55, 32, 48, 55, 32, 48, 55, 32, 48, 55, 32].append [48, 55, 32, 48, 55, 32, 48, 55, 32, 48, 55, 32, 48, 55, 32, 48, 55, 32, 48, 55, 32, 48, 55, 32, 48, 56, 32, 48, 55, 32, 48, 56, 32, 49, 51, 32, 49, 57, 32, 49, 51, 32, 49, 52, 32, 48, 54, 32]).append ([49, 53, 32, 48, 53, 32, 48, 54, 32, 48, 53, 32, 48, 54, 32, 48, 53, 32, 48, 54, 32, 48, 54, 32, 48, 54, 32, 48, 53, 32, 48, 55, 32, 48, 55, 32, 48, 54, 32, 48, 54, 32, 48, 54, 32, 48, 53, 32].append [48, 54, 32, 48, 55, 32, 48, 54, 32, 48, 53, 32, 48, 53, 32, 48, 54, 32, 48, 55, 32, 48, 55, 32, 48, 55, 32, 48, 55, 32, 48, 55, 32, 49, 53, 32, 49, 49, 32, 49, 52, 32, 49, 51, 32, 50, 56, 32, 50]))).append ((([48, 32, 50, 50, 32, 50, 48, 32, 50, 48, 32, 50, 50, 32, 50, 50, 32, 50, 50, 32, 50, 51, 32, 50, 50, 32, 50, 51, 32, 50, 51, 32, 50, 51, 32, 50, 51, 32, 50, 51, 32, 50, 52, 32, 50, 51, 32, 50].append [52, 32, 50, 52, 32, 50, 50, 32, 50, 51, 32, 50, 52, 32, 50, 51, 32, 50, 51, 32, 50, 51, 32, 50, 51, 32, 50, 49, 32, 50, 50, 32, 50, 51, 32, 50, 50, 32, 50, 51, 32, 50, 51, 32, 50, 52, 32, 50]).append ([50, 32, 50, 49, 32, 50, 48, 32, 50, 50, 32, 50, 50, 32, 50, 51, 32, 50, 51, 32, 50, 49, 32, 50, 51, 32, 50, 50, 32, 50, 50, 32, 50, 52, 32, 50, 49, 32, 50, 50, 32, 50, 51, 32, 50, 51, 32, 50].append [49, 32, 50, 49, 32, 50, 50, 32, 50, 49, 32, 50, 51, 32, 50, 50, 32, 50, 51, 32, 50, 51, 32, 50, 48, 32, 50, 50, 32, 50, 50, 32, 50, 50, 32, 50, 51, 32, 50, 50, 32, 50, 50, 32, 50, 51, 32, 50, 54])).append (([32, 50, 54, 32, 50, 48, 32, 49, 57, 32, 50, 50, 32, 50, 51, 32, 50, 50, 32, 50, 53, 32, 50, 54, 32, 50, 54, 32, 50, 54, 32, 50, 55, 32, 50, 55, 32, 50, 54, 32, 50, 52, 32, 50, 53, 32, 49, 57].append [32, 50, 49, 32, 50, 54, 32, 50, 55, 32, 50, 55, 32, 50, 54, 32, 50, 55, 32, 50, 52, 32, 50, 49, 32, 50, 49, 32, 50, 54, 32, 50, 54, 32, 50, 56, 32, 50, 55, 32, 50, 55, 32, 50, 55, 32, 50, 48]).append ([32, 50, 52, 32, 50, 48, 32, 50, 49, 32, 50, 50, 32, 50, 49, 32, 50, 49, 32, 50, 51, 32, 50, 50, 32, 50, 50, 32, 50, 53, 32, 50, 53, 32, 50, 52, 32, 50, 52, 32, 50, 54, 32, 50, 51, 32, 50, 54].append [32, 50, 55, 32, 50, 54, 32, 50, 54, 32, 50, 55, 32, 50, 55, 32, 50, 55, 32, 50, 55, 32, 50, 55, 32, 50, 56, 32, 50, 55, 32, 50, 55, 32, 50, 55, 32, 50, 55, 32, 50, 55, 32, 50, 54, 32, 51, 48, 32]))))).toArray }
theorem lensStr_size : lensStr.size = 771 := by decide +kernel
theorem lens_all : (List.range 257).all (fun c => (lensStr[3 * c]?.getD 0).toNat == 48 + len c / 10 && (lensStr[3 * c + 1]?.getD 0).toNat == 48 + len c % 10) = true := by decide +kernel
theorem run_lens {P : Program} {t : TypeId} (ht : P.underlying t = some .string) (i : Nat) (hi : i < 771) (k : IntKind) (w : World) : (Instr.index t (.string lensStr) (.int k i)).run P w = .ok (.int .u8 ((lensStr[i]?.getD 0).toNat)) w := by
  have hs := lensStr_size
  rw [run_index_string w t lensStr k i ht, dif_pos ⟨by omega, by omega⟩]
  simp only [Int.toNat_natCast, ByteArray.getElem?_lt' _ _ (show i < lensStr.size by omega), Option.getD_some]
theorem lens_hi {c : Nat} (h : c < 257) : (lensStr[3 * c]?.getD 0).toNat = 48 + len c / 10 ∧ (lensStr[3 * c + 1]?.getD 0).toNat = 48 + len c % 10 := by
  have := List.all_eq_true.1 lens_all c (List.mem_range.2 h)
  simpa using this
theorem length_any (c : Nat) (w : World) (hc : c < 257) :
    Calls Tryd.prog 99 #[.int .i64 c] w fun e w' => e = .returned (.int .i64 (len c)) ∧ ∃ n, w' = w.drewN n := by
  go_enter Tryd.func99, Tryd.ntmps99
  have hf : (Value.string { data := ((((([49, 51, 32, 50, 51, 32, 50, 56, 32, 50, 56, 32, 50, 56, 32, 50, 56, 32, 50, 56, 32, 50, 56, 32, 50, 56, 32, 50, 52, 32, 51, 48, 32, 50, 56, 32, 50, 56, 32, 51, 48, 32, 50, 56, 32, 50, 56, 32].append [50, 56, 32, 50, 56, 32, 50, 56, 32, 50, 56, 32, 50, 56, 32, 50, 56, 32, 51, 48, 32, 50, 56, 32, 50, 56, 32, 50, 56, 32, 50, 56, 32, 50, 56, 32, 50, 56, 32, 50, 56, 32, 50, 56, 32, 50, 56, 32]).append ([48, 54, 32, 49, 48, 32, 49, 48, 32, 49, 50, 32, 49, 51, 32, 48, 54, 32, 48, 56, 32, 49, 49, 32, 49, 48, 32, 49, 48, 32, 48, 56, 32, 49, 49, 32, 48, 56, 32, 48, 54, 32, 48, 54, 32, 48, 54, 32].append [48, 53, 32, 48, 53, 32, 48, 53, 32, 48, 54, 32, 48, 54, 32, 48, 54, 32, 48, 54, 32, 48, 54, 32, 48, 54, 32, 48, 54, 32, 48, 55, 32, 48, 56, 32, 49, 53, 32, 48, 54, 32, 49, 50, 32, 49, 48, 32])).append (([49, 51, 32, 48, 54, 32, 48, 55, 32, 48, 55, 32, 48, 55, 32, 48, 55, 32, 48, 55, 32, 48, 55, 32, 48, 55, 32, 48, 55, 32, 48, 55, 32, 48, 55, 32, 48, 55, 32, 48, 55, 32, 48, 55, 32, 48, 55, 32].append [48, 55, 32, 48, 55, 32, 48, 55, 32, 48, 55, 32, 48, 55, 32, 48, 55, 32, 48, 55, 32, 48, 55, 32, 48, 56, 32, 48, 55, 32, 48, 56, 32, 49, 51, 32, 49, 57, 32, 49, 51, 32, 49, 52, 32, 48, 54, 32]).append ([49, 53, 32, 48, 53, 32, 48, 54, 32, 48, 53, 32, 48, 54, 32, 48, 53, 32, 48, 54, 32, 48, 54, 32, 48, 54, 32, 48, 53, 32, 48, 55, 32, 48, 55, 32, 48, 54, 32, 48, 54, 32, 48, 54, 32, 48, 53, 32].append [48, 54, 32, 48, 55, 32, 48, 54, 32, 48, 53, 32, 48, 53, 32, 48, 54, 32, 48, 55, 32, 48, 55, 32, 48, 55, 32, 48, 55, 32, 48, 55, 32, 49, 53, 32, 49, 49, 32, 49, 52, 32, 49, 51, 32, 50, 56, 32, 50]))).append ((([48, 32, 50, 50, 32, 50, 48, 32, 50, 48, 32, 50, 50, 32, 50, 50, 32, 50, 50, 32, 50, 51, 32, 50, 50, 32, 50, 51, 32, 50, 51, 32, 50, 51, 32, 50, 51, 32, 50, 51, 32, 50, 52, 32, 50, 51, 32, 50].append [52, 32, 50, 52, 32, 50, 50, 32, 50, 51, 32, 50, 52, 32, 50, 51, 32, 50, 51, 32, 50, 51, 32, 50, 51, 32, 50, 49, 32, 50, 50, 32, 50, 51, 32, 50, 50, 32, 50, 51, 32, 50, 51, 32, 50, 52, 32, 50]).append ([50, 32, 50, 49, 32, 50, 48, 32, 50, 50, 32, 50, 50, 32, 50, 51, 32, 50, 51, 32, 50, 49, 32, 50, 51, 32, 50, 50, 32, 50, 50, 32, 50, 52, 32, 50, 49, 32, 50, 50, 32, 50, 51, 32, 50, 51, 32, 50].append [49, 32, 50, 49, 32, 50, 50, 32, 50, 49, 32, 50, 51, 32, 50, 50, 32, 50, 51, 32, 50, 51, 32, 50, 48, 32, 50, 50, 32, 50, 50, 32, 50, 50, 32, 50, 51, 32, 50, 50, 32, 50, 50, 32, 50, 51, 32, 50, 54])).append (([32, 50, 54, 32, 50, 48, 32, 49, 57, 32, 50, 50, 32, 50, 51, 32, 50, 50, 32, 50, 53, 32, 50, 54, 32, 50, 54, 32, 50, 54, 32, 50, 55, 32, 50, 55, 32, 50, 54, 32, 50, 52, 32, 50, 53, 32, 49, 57].append [32, 50, 49, 32, 50, 54, 32, 50, 55, 32, 50, 55, 32, 50, 54, 32, 50, 55, 32, 50, 52, 32, 50, 49, 32, 50, 49, 32, 50, 54, 32, 50, 54, 32, 50, 56, 32, 50, 55, 32, 50, 55, 32, 50, 55, 32, 50, 48]).append ([32, 50, 52, 32, 50, 48, 32, 50, 49, 32, 50, 50, 32, 50, 49, 32, 50, 49, 32, 50, 51, 32, 50, 50, 32, 50, 50, 32, 50, 53, 32, 50, 53, 32, 50, 52, 32, 50, 52, 32, 50, 54, 32, 50, 51, 32, 50, 54].append [32, 50, 55, 32, 50, 54, 32, 50, 54, 32, 50, 55, 32, 50, 55, 32, 50, 55, 32, 50, 55, 32, 50, 55, 32, 50, 56, 32, 50, 55, 32, 50, 55, 32, 50, 55, 32, 50, 55, 32, 50, 55, 32, 50, 54, 32, 51, 48, 32]))))).toArray }) = Value.string lensStr := rfl
  rw [hf]
  clear hf
  obtain ⟨q, hq⟩ : ∃ q, len c / 10 = q := ⟨_, rfl⟩
  obtain ⟨r, hr⟩ : ∃ r, len c % 10 = r := ⟨_, rfl⟩
  have hb := len_bd hc
  have h3 := run_lens (P := Tryd.prog) Tryd.underlying9 (3 * c) (by omega) .i64
  have h4 := run_lens (P := Tryd.prog) Tryd.underlying9 (3 * c + 1) (by omega) .i64
  rw [(lens_hi hc).1, hq] at h3
  rw [(lens_hi hc).2, hr] at h4
  have e3 : ((3 * c : Nat) : Int) = (c : Int) * 3 := by omega
  have e4 : ((3 * c + 1 : Nat) : Int) = (c : Int) * 3 + 1 := by omega
  have e5 : ((48 + q : Nat) : Int) = 48 + (q : Int) := by omega
  have e6 : ((48 + r : Nat) : Int) = 48 + (r : Int) := by omega
  rw [e3, e5] at h3
  rw [e4, e6] at h4
  have HL := Lib.hid (show (len c : Int) = (q : Int) * 10 + (r : Int) by omega)
  have hq3 : q ≤ 3 := by omega
  have hr9 : r ≤ 9 := by omega
  clear hq hr e3 e4 e5 e6 hb
  have k1 : IntKind.i64.wrap ((c : Int) * 3 + 1) = (c : Int) * 3 + 1 := wrap_i64_small (by omega) (by omega)
  have k2 : IntKind.u8.wrap (48 + (q : Int) - 48) = (q : Int) := by simp [IntKind.wrap, IntKind.bits, IntKind.signed]; omega
  have k3 : IntKind.u8.wrap (48 + (r : Int) - 48) = (r : Int) := by simp [IntKind.wrap, IntKind.bits, IntKind.signed]; omega
  go_wp2
  go_quiet (fail)
  go_wp2
  go_ret
  exact ⟨by rw [HL.out]; rfl, _, rfl⟩
end Go.Proofs.YtenapfpkegoonaaDoor

/-
  Small calls of package huff: step, isFilling, Length.
-/
namespace Go.Proofs.YtenapfpkegoonaaDoor
open Go.RowKit

theorem i64_bit (p b : Nat) (h1 : p < 4611686018427387904) (h2 : b < 2) : bits .or .i64 ((p : Int) * 2) b = ((2 * p + b : Nat) : Int) := by
  rw [i64_join 1 ((p : Int) * 2) b (by omega) (by omega) (by omega) (by omega) (by omega) (by omega)]
  omega
theorem step_any (p b : Nat) (w : World) (hp : p < 4611686018427387904) (hb : b < 2) :
    Calls Tryd.prog 109 #[.int .i64 p, .int .i64 b] w fun e w' => e = .returned (.int .i64 ((2 * p + b : Nat) : Int)) ∧ w = w' := by
  have H := Lib.hid (i64_bit p b hp hb)
  go_enter Tryd.func109, Tryd.ntmps109
  go_wp2
  go_ret
  exact ⟨by rw [← H.out]; rfl, rfl⟩

theorem fill_all : (List.range 8).all (fun n => (List.range (2 ^ n)).all (fun k => ((2 ^ n + k) &&& (2 ^ n + k + 1) == 0) == (k + 1 == 2 ^ n))) = true := by decide +kernel
theorem isFilling_any (n k : Nat) (w : World) (hk : k < 2 ^ n) (hn : n < 30) :
    Calls Tryd.prog 110 #[.int .i64 ((2 ^ n + k : Nat) : Int)] w fun e w' => e = .returned (.bool (decide (n ≤ 7 ∧ k + 1 = 2 ^ n))) ∧ w = w' := by
  obtain ⟨p, hp⟩ : ∃ p, 2 ^ n + k = p := ⟨_, rfl⟩
  rw [hp]
  by_cases h7 : n ≤ 7
  · have hf := List.all_eq_true.1 (List.all_eq_true.1 fill_all n (List.mem_range.2 (by omega))) k (List.mem_range.2 hk)
    rw [hp] at hf
    have h2 : 2 ^ n ≤ 128 := Nat.pow_le_pow_right (n := 2) (by omega) h7
    have hlt : p < 256 := by omega
    have d1 : decide ((p : Int) < 256) = true := decide_eq_true (by omega)
    have HD := Lib.hid (show decide (n ≤ 7 ∧ k + 1 = 2 ^ n) = (bits .and .i64 (p : Int) ((p : Int) + 1) == 0) by
      rw [i64_and _ _ (by omega) (by omega) (by omega) (by omega), show ((p : Int) + 1).toNat = p + 1 by omega, Int.toNat_natCast]
      have e : (((p &&& (p + 1) : Nat) : Int) == 0) = (p &&& (p + 1) == 0) := by
        rw [Bool.eq_iff_iff]; simp
      rw [e]
      simp only [beq_iff_eq] at hf
      rw [hf, Bool.eq_iff_iff]
      simp [h7])
    clear hp hf h2
    go_enter Tryd.func110, Tryd.ntmps110
    go_wp2
    go_ret
    exact ⟨by rw [HD.out]; rfl, rfl⟩
  · have h2 : 2 ^ 8 ≤ 2 ^ n := Nat.pow_le_pow_right (n := 2) (by omega) (by omega)
    have d1 : decide ((p : Int) < 256) = false := decide_eq_false (by omega)
    have HD := Lib.hid (show decide (n ≤ 7 ∧ k + 1 = 2 ^ n) = false by simp [h7])
    clear hp h2
    go_enter Tryd.func110, Tryd.ntmps110
    go_wp2
    go_ret
    exact ⟨by rw [HD.out]; rfl, rfl⟩

/-- what is told of a length -/
def lenZ (c : Int) : Int := if 0 ≤ c ∧ c < 257 then (len c.toNat : Int) else 0
def codeZ (c : Int) : Int := if 0 ≤ c ∧ c < 257 then (code c.toNat : Int) else 0
end Go.Proofs.YtenapfpkegoonaaDoor

/-
  The codes that package huff makes.
-/
namespace Go.Proofs.YtenapfpkegoonaaDoor
open Go.RowKit

/-- cells of ints -/
def intsA (zs : List Int) : Array Value := (zs.map (Value.int .i64)).toArray
theorem intsA_size (zs : List Int) : (intsA zs).size = zs.length := by simp [intsA]
theorem intsA_get {zs : List Int} {i : Nat} (h : i < zs.length) : (intsA zs)[i]? = some (.int .i64 (at0 zs i)) := by simp [intsA, at0, h]
theorem intsA_set (zs : List Int) (i : Nat) (z : Int) : (intsA zs).setIfInBounds i (.int .i64 z) = intsA (zs.set i z) := by
  simp only [intsA, List.setIfInBounds_toArray, List.map_set]
theorem intsA_one (zs : List Int) : (intsA zs).all (·.oneCell') = true := by
  rw [Array.all_eq_true_iff_forall_mem]
  intro v hv
  simp only [intsA, List.mem_toArray, List.mem_map] at hv
  obtain ⟨z, _, rfl⟩ := hv
  rfl
theorem Tryd.zeroArr0 : (Tryd.prog.info? 142).map (fun i => (i.zero, i.size)) = some (some (.agg (intsA (List.replicate 257 0))), 257) := by kernel_rfl
theorem Tryd.zeroArr : (Tryd.prog.info? 142).map (fun i => (i.zero, i.size)) = some (some (.agg (intsA (arrAt 5 0))), 257) := by
  rw [arrAt_low (Nat.le_refl 5)]; exact Tryd.zeroArr0
theorem Tryd.sizeArr : (Tryd.prog.info? 142).map (·.size) = some 257 := (zero_of_info Tryd.zeroArr).2
theorem Tryd.arrUnder : Tryd.prog.underlying 142 = some (.array 257 3) := by kernel_rfl
theorem arr_index (B c : Nat) (hc : c < 257) (w : World) : (Instr.indexAt 142 (.pointer (some ⟨B, 0, none⟩)) (.int .i64 c)).run Tryd.prog w = .ok (.pointer (some ⟨B, c, none⟩)) w := by
  have h : Tryd.prog.underlying 142 = some (.array (Tryd.prog.arrayLen 142) (Tryd.prog.elem 142)) := by kernel_rfl
  have h2 : Tryd.prog.arrayLen 142 = 257 := by kernel_rfl
  have h3 : (sizeOf (Tryd.prog.elem 142)).run Tryd.prog w = .ok 1 w := by kernel_rfl
  rw [run_indexAt_array w 142 ⟨B, 0, none⟩ .i64 c h, h2, if_pos ⟨by omega, by omega⟩, h3]
  simp [Result.andThen, Addr.add, eq_comm]

/-- what the two blocks hold -/
def CodesAt (w : World) (n c : Nat) (W : World) : Prop :=
  W.heap[w.heap.size]? = some (.cells (intsA (arrAt 5 0)) 142 (0, 0)) ∧ W.heap[w.heap.size + 1]? = some (.cells (intsA (arrAt n c)) 142 (0, 0)) ∧ Below w.heap.size w W
theorem CodesAt.drewN {w W : World} {n c : Nat} (h : CodesAt w n c W) (k : Nat) : CodesAt w n c (W.drewN k) := ⟨h.1, h.2.1, below_drewN h.2.2 k⟩
theorem CodesAt.skip {w W : World} {n c : Nat} (h : CodesAt w n c W) (hl : len c ≠ n) : CodesAt w n (c + 1) W := ⟨h.1, by rw [arrAt_skip hl]; exact h.2.1, h.2.2⟩
theorem CodesAt.set {w W : World} {n c : Nat} (h : CodesAt w n c W) (hl : len c = n) : CodesAt w n (c + 1) (W.setCell ⟨w.heap.size + 1, c, none⟩ (.int .i64 (code c))) := by
  refine ⟨(Below.heap_setCell _ _ _ _ (by show w.heap.size ≠ w.heap.size + 1; omega)).trans h.1, ?_, h.2.2.setCell (p := ⟨w.heap.size + 1, c, none⟩) (by show w.heap.size ≤ w.heap.size + 1; omega) _⟩
  rw [heap_setCell_same _ _ c _ _ _ h.2.1, intsA_set, arrAt_set hl]

theorem arrAt_last : arrAt 30 257 = codeL := by rw [arrAt_row, arrAt_end]
theorem sizeCodes : (Tryd.prog.info? 142).map (·.size) = some (intsA codeL).size := by rw [intsA_size, codeL_length]; exact Tryd.sizeArr
theorem sizeCodes' (n c : Nat) : (intsA (arrAt n c)).size = (intsA codeL).size := by rw [intsA_size, intsA_size, codeL_length, arrAt_length]

set_option maxHeartbeats 1000000 in
set_option maxRecDepth 20000 in
theorem codes_any (w : World) :
    Calls Tryd.prog 103 #[] w fun e w' => e = .returned (.agg (intsA codeL)) ∧ Below w.heap.size w w' := by
  have hz := (zero_of_info Tryd.zeroArr).1
  go_enter Tryd.func103, Tryd.ntmps103
  go_wp2_with fail
  go_step3
  go_wp2_with fail
  go_step3
  go_wp2_with fail
  clear hz
  go_loopg [2, 3] 25 (fun g s2 s3 wx => ∃ n : Nat, n + g = 30 ∧ s3 = .int .i64 n ∧ s2 = .int .i64 (nextAt n 0) ∧ 5 ≤ n ∧ CodesAt w n 0 wx)
  case atStart =>
    refine ⟨5, rfl, rfl, by rw [nextAt_low.2]; rfl, Nat.le_refl _, ?_, ?_, ?_⟩
    · exact (Below.heap_alloc _ _ _ (by simp)).trans (heap_alloc_new _ _)
    · have := heap_alloc_new (w.alloc (.cells (intsA (arrAt 5 0)) 142)) (.cells (intsA (arrAt 5 0)) 142)
      simpa using this
    · exact ((Below.refl _ _).alloc (Nat.le_refl _) _).alloc (by simp) _
  case round =>
    obtain ⟨n, hng, rfl, rfl, hn5, HC⟩ := hrel
    have hC := Lib.hid HC
    have hnx : ((nextAt n 0 : Nat) : Int) ≤ 2147483905 := by have := nextAt_le (n := n) (by omega) 0; omega
    have HNG := Lib.hid hng
    have hn30 : n ≤ 30 := by omega
    clear HC hng
    obtain ⟨g0, hg0⟩ : ∃ g0, gk = g0 := ⟨_, rfl⟩
    subst hg0
    obtain ⟨x0, hx0⟩ : ∃ x0, nextAt n 0 = x0 := ⟨_, rfl⟩
    have HX0 := Lib.hid hx0
    rw [hx0] at hnx ⊢
    clear hx0
    go_wp2_with fail
    go_loopg [2, 7] 257 (fun g2 s2 s7 wy => ∃ c : Nat, c + g2 = 257 ∧ s7 = .int .i64 c ∧ s2 = .int .i64 (nextAt n c) ∧ CodesAt w n c wy ∧ (n = 30 → c ≤ 256))
    case atStart => exact ⟨0, rfl, rfl, by rw [HX0.out], hC.out, fun _ => by omega⟩
    case round =>
      obtain ⟨c, hcg, rfl, rfl, HC, h30⟩ := hrel
      have hC2 := Lib.hid HC
      have H30 := Lib.hid h30
      have HCG := Lib.hid hcg
      have hc257 : c ≤ 257 := by omega
      clear HC h30 hnx hcg
      have hnx : ((nextAt n c : Nat) : Int) ≤ 2147483905 := by have := nextAt_le (n := n) (by omega) c; omega
      obtain ⟨x, hx⟩ : ∃ x, nextAt n c = x := ⟨_, rfl⟩
      have HX := Lib.hid hx
      rw [hx] at hnx ⊢
      clear hx
      by_cases hlt : c < 257
      · have hix := arr_index (w.heap.size + 1) c hlt
        by_cases hl : len c = n
        · have HL := Lib.hid hl
          clear hl
          obtain ⟨q0, q1, q2⟩ := hC2.out
          have hcl : wr.cell? ⟨w.heap.size + 1, c, none⟩ = some (.int .i64 (at0 (arrAt n c) c)) := blk_cell q1 (intsA_get (by rw [arrAt_length]; exact hlt))
          have hfr : wr.frozen? ⟨w.heap.size + 1, c, none⟩ = false := blk_free q1
          have HK : Hid (x = code c) := by
            show x = code c
            rw [← HX.out, ← HL.out]
            exact nextAt_code hlt
          clear q0 q1 q2
          by_cases he : c = 256
          · have hbe : ((c : Int) == 256) = true := by rw [he]; rfl
            have HE := Lib.hid he
            clear he
            have hln : Hid (n = 30) := by show n = 30; rw [← HL.out, HE.out, len_end]
            go_wp2_with fail
            refine (length_any c _ hlt).mono ?_
            rintro e w' ⟨rfl, n1, rfl⟩
            rw [HL.out]
            have hs := (hC2.out.drewN n1).set HL.out
            rw [← HK.out] at hs
            have harr : arrAt n (c + 1) = codeL := by rw [hln.out, HE.out, arrAt_last]
            obtain ⟨s1, s2, s3⟩ := hs
            rw [harr] at s2
            have S1 := Lib.hid s1
            have S2 := Lib.hid s2
            have S3 := Lib.hid s3
            clear harr s1 s2 s3
            go_wp2_with (first
              | (with_reducible refine wpList_load_row rfl 142 (.tmp 1) rfl (w.heap.size + 1) rfl 142 (intsA codeL) (0, 0) _ S2.out Tryd.arrUnder rfl sizeCodes ?_)
              | (with_reducible refine wpList_store_row rfl 142 (.tmp 0) (.tmp 24) rfl w.heap.size (intsA codeL) rfl rfl 142 (intsA (arrAt 5 0)) S1.out sizeCodes (sizeCodes' _ _) (intsA_one _) ?_))
            try rw [Exit.noGoto_ret]
            refine bodyPost_ret (v := .agg (intsA codeL)) (results_cell_row rfl _ _ w.heap.size _ _ (0, 0) _ rfl (setRow_heap _ _ _ _ _ _ S1.out) Tryd.arrUnder rfl sizeCodes) rfl ⟨rfl, below_setRow S3.out (Nat.le_refl _) _⟩
          · have hbe : ((c : Int) == 256) = false := by rw [beq_eq_false_iff_ne]; omega
            go_wp2_with fail
            refine (length_any c _ hlt).mono ?_
            rintro e w' ⟨rfl, n1, rfl⟩
            rw [HL.out]
            go_wp2_with fail
            go_roundg (257 - (c + 1))
            case measure => have := HCG.out; omega
            case rel =>
              refine ⟨c + 1, by omega, by go_num, ?_, ?_, fun h => ?_⟩
              · rw [nextAt_set hlt HL.out, HX.out]; rfl
              · have := (hC2.out.drewN n1).set HL.out
                rw [← HK.out] at this
                exact this
              · omega
        · have HL := Lib.hid hl
          have hb : ((len c : Int) != (n : Int)) = true := by rw [bne_iff_ne]; omega
          clear hl
          go_wp2_with fail
          refine (length_any c _ hlt).mono ?_
          rintro e w' ⟨rfl, n1, rfl⟩
          go_wp2_with fail
          go_roundg (257 - (c + 1))
          case measure => have := HCG.out; omega
          case rel =>
            refine ⟨c + 1, by omega, by go_num, ?_, (hC2.out.drewN n1).skip HL.out, fun h => ?_⟩
            · rw [nextAt_skip hlt HL.out, HX.out]
            · have := H30.out h
              have h2 := HL.out
              rw [h] at h2
              apply Classical.byContradiction
              intro h3
              obtain rfl : c = 256 := by omega
              exact h2 len_end
      · obtain rfl : c = 257 := by omega
        have hn29 : n ≤ 29 := by
          have := H30.out
          omega
        go_wp2_with fail
        go_roundg (29 - n)
        case measure => have := HNG.out; omega
        case rel =>
          refine ⟨n + 1, by omega, by go_num, ?_, by omega, ?_⟩
          · rw [nextAt_row (by omega), HX.out]; show _ = Value.int .i64 _; congr 1; omega
          · obtain ⟨h1, h2, h3⟩ := hC2.out
            exact ⟨h1, by rw [← arrAt_row]; exact h2, h3⟩
end Go.Proofs.YtenapfpkegoonaaDoor

/-
  The map of paths that package huff makes; a code by its byte.
-/
namespace Go.Proofs.YtenapfpkegoonaaDoor
open Go.RowKit Go.Maps

theorem arr_part {zs : List Int} (hz : zs.length = 257) (c : Nat) (hc : c < 257) (k : IntKind) (w : World) : (Instr.index 142 (.agg (intsA zs)) (.int k c)).run Tryd.prog w = .ok (.int .i64 (at0 zs c)) w := by
  have h3 : (sizeOf 3).run Tryd.prog w = .ok 1 w := by kernel_rfl
  have h4 : (isAgg 3).run Tryd.prog w = .ok false w := by kernel_rfl
  have hg := intsA_get (zs := zs) (i := c) (by omega)
  simp [Instr.index, asIntOf, run_underlying Tryd.arrUnder, h3, part, h4, hg, Result.andThen]
  exact fun h => absurd h (by omega)

/-- a code's path, and the map of the first ones -/
def pathK (c : Nat) : Nat := 2 ^ len c + code c
def pathD : Nat → DataW Unit
  | 0 => .map []
  | k + 1 => (pathD k).put (.int .i64 (pathK k)) (.lit (.int .i64 k))
theorem pathD_map : ∀ k, IsMap (pathD k)
  | 0 => isMap_empty
  | k + 1 => (pathD_map k).put _ _
theorem path_inj {n k m j : Nat} (hk : k < 2 ^ n) (hj : j < 2 ^ m) (h : 2 ^ n + k = 2 ^ m + j) : n = m ∧ k = j := by
  have hn : n = m := by
    rcases Nat.lt_trichotomy n m with h1 | h1 | h1
    · have := Nat.pow_le_pow_right (n := 2) (by omega) (show n + 1 ≤ m by omega)
      rw [Nat.pow_succ] at this
      omega
    · exact h1
    · have := Nat.pow_le_pow_right (n := 2) (by omega) (show m + 1 ≤ n by omega)
      rw [Nat.pow_succ] at this
      omega
  subst hn
  exact ⟨rfl, by omega⟩
theorem lit_int_ne {a b : Int} (h : a ≠ b) : Lit.int .i64 a ≠ Lit.int .i64 b := fun e => h (by injection e)
theorem isKey (a : Int) : WideAt.IsKeyLit (Lit.int .i64 a) := by unfold WideAt.IsKeyLit; trivial
theorem pathD_hit : ∀ {m c : Nat} (z : DataW Unit), m ≤ 257 → c < m → (pathD m).atKey (.int .i64 (pathK c)) z = .lit (.int .i64 c) ∧ has (pathD m) (.int .i64 (pathK c)) = true
  | m + 1, c, z, hm, hc => by
    by_cases he : c = m
    · subst he
      exact ⟨atKey_put_same (pathD_map _) (isKey _) _ _, has_put_same (pathD_map _) (isKey _) _⟩
    · have hne : pathK c ≠ pathK m := fun h => by
        obtain ⟨h1, h2⟩ := path_inj (code_lt (by omega)) (code_lt (by omega)) h
        exact he (code_inj (by omega) (by omega) h1 h2)
      have hne2 : (Lit.int .i64 (pathK c)) ≠ Lit.int .i64 (pathK m) := lit_int_ne (by exact_mod_cast hne)
      have ih := pathD_hit (m := m) z (by omega) (show c < m by omega)
      exact ⟨(atKey_put_other hne2 _ _).trans ih.1, (has_put_other hne2 _).trans ih.2⟩
theorem pathD_miss : ∀ {m : Nat} {p : Nat}, (∀ c, c < m → pathK c ≠ p) → has (pathD m) (.int .i64 p) = false
  | 0, _, _ => rfl
  | m + 1, p, h => by
    have hne : (Lit.int .i64 p) ≠ Lit.int .i64 (pathK m) := lit_int_ne (fun e => h m (by omega) (by exact_mod_cast e.symm))
    exact (has_put_other hne _).trans (pathD_miss (fun c hc => h c (by omega)))

theorem Tryd.mapUnder : Tryd.prog.underlying 144 = some (.map 3 3) := by kernel_rfl
theorem Tryd.keyed : Keyed Tryd.prog 3 := int_keyed Tryd.underlying3
theorem Tryd.zeroInt (w : World) : (zeroValue 3).run Tryd.prog w = .ok (.int .i64 0) w := by kernel_rfl
/-- the map of paths lies in a block -/
def Paths (w : World) (b : Nat) : Prop := w.ownsMap Tryd.prog 3 (plainElem (H := Unit) Tryd.prog 3) b 257 (pathD 257)
theorem owns_below {w w' : World} {R : Value → Option (DataW Unit × List MemPlace)} {b n : Nat} {D : DataW Unit} (h : w.ownsMap Tryd.prog 3 R b n D) (hb : Below w.heap.size w w') : w'.ownsMap Tryd.prog 3 R b n D := by
  have hl := h.lt
  obtain ⟨es, clock, hh, r⟩ := h
  exact ⟨es, clock, (hb.block b hl).trans hh, r⟩
theorem Paths.of_heap {w w' : World} {b : Nat} (h : Paths w b) (he : w'.heap[b]? = w.heap[b]?) : Paths w' b := by
  obtain ⟨es, clock, hh, r⟩ := h
  exact ⟨es, clock, he.trans hh, r⟩
theorem Paths.lt {w : World} {b : Nat} (h : Paths w b) : b < w.heap.size := World.ownsMap.lt h
/-- what is asked of it -/
def lookC (n k : Nat) : Nat := (look n k).getD 0
theorem Paths.look {w : World} {b n k : Nat} (h : Paths w b) (hk : k < 2 ^ n) (hn : n ≤ 40) :
    (Instr.lookup 144 (.map (some b)) (.int .i64 ((2 ^ n + k : Nat) : Int)) true).run Tryd.prog w = .ok (.tuple #[.int .i64 (lookC n k), .bool (Go.Proofs.YtenapfpkegoonaaDoor.look n k).isSome]) w := by
  have hp : 2 ^ n ≤ 2 ^ 40 := Nat.pow_le_pow_right (by omega) hn
  have hwf : (Lit.int .i64 ((2 ^ n + k : Nat) : Int)).wf = true := WalkArith.wf_i64 (by omega)
  obtain ⟨v, ps, hrun, hv⟩ := World.ownsMap.look_ok h Tryd.keyed Tryd.mapUnder (Tryd.zeroInt w) (plainElem_int Tryd.underlying3 (a := 0) (by decide)) (keyOf_int_mk Tryd.underlying3 hwf)
  rw [hrun]
  obtain ⟨a, rfl, hz, _⟩ := plainElem_int_inv Tryd.underlying3 hv
  cases e : Go.Proofs.YtenapfpkegoonaaDoor.look n k with
  | none =>
    have hm : has (pathD 257) (.int .i64 ((2 ^ n + k : Nat) : Int)) = false := pathD_miss (fun c hc hp => by
      obtain ⟨h1, h2⟩ := path_inj (code_lt hc) hk hp
      exact look_none e hc ⟨h1, h2⟩)
    have ha : (pathD 257).atKey (.int .i64 ((2 ^ n + k : Nat) : Int)) (.lit (.int .i64 0)) = .lit (.int .i64 0) := atKey_of_not_has hm _
    simp only [ha, Prod.mk.injEq, DataW.lit.injEq, Lit.int.injEq, true_and] at hz
    rw [hm, ← hz.1, lookC, e]
    rfl
  | some c =>
    obtain ⟨hc, h1, h2⟩ := look_of e
    subst h1 h2
    obtain ⟨ha, hh⟩ := pathD_hit (m := 257) (c := c) (.lit (.int .i64 0)) (Nat.le_refl _) hc
    unfold pathK at ha hh
    simp only [ha, Prod.mk.injEq, DataW.lit.injEq, Lit.int.injEq, true_and] at hz
    rw [hh, ← hz.1, lookC, e]
    rfl

theorem make_hint (w : World) : (Instr.makeMap 144 (some (.int .i64 257))).run Tryd.prog w = .ok (.map (some w.heap.size)) (w.alloc (.map #[] 0)) := by
  simp [Instr.makeMap, asInt, asIntOf]
theorem shl_one (L : Nat) (h : L ≤ 40) : IntKind.i64.wrap (2 ^ L) = 2 ^ L := by
  have hp : (2 : Int) ^ L ≤ 2 ^ 40 := by exact_mod_cast Nat.pow_le_pow_right (n := 2) (by omega) h
  have h0 : (0 : Int) < 2 ^ L := Int.pow_pos (by omega)
  exact wrap_i64_small (by omega) (by omega)
theorem or_path {c : Nat} (h : c < 257) : bits .or .i64 (2 ^ len c) (code c) = ((pathK c : Nat) : Int) := by
  have hb := len_bd h
  have hp : 2 ^ len c ≤ 2 ^ 30 := Nat.pow_le_pow_right (by omega) hb.2
  have hc := code_lt h
  have e : (2 : Int) ^ len c = ((2 ^ len c : Nat) : Int) := by simp
  have hlt : ((code c : Nat) : Int) < 2 ^ len c := by rw [e]; exact_mod_cast hc
  rw [i64_join (len c) (2 ^ len c) (code c) (by rw [e]; omega) (by rw [e]; omega) (by simp) (by omega) hlt (by rw [e] at hlt; omega), pathK, e]
  omega

theorem path_lt {c : Nat} (h : c < 257) : pathK c < 2147483648 := by
  have hb := len_bd h
  have hp : 2 ^ len c ≤ 2 ^ 30 := Nat.pow_le_pow_right (by omega) hb.2
  have := code_lt h
  unfold pathK
  omega
set_option maxRecDepth 20000 in
theorem paths_any (w : World) :
    Calls Tryd.prog 107 #[] w fun e w' => ∃ b, e = .returned (.map (some b)) ∧ w.heap.size ≤ b ∧ Paths w' b ∧ Below w.heap.size w w' := by
  have hmm := make_hint
  go_enter Tryd.func107, Tryd.ntmps107
  go_wp2_with fail
  clear hmm
  refine (codes_any _).mono ?_
  rintro e w1 ⟨rfl, hb1⟩
  have hown := owns_below (World.ownsMap_made w Tryd.prog 3 (plainElem (H := Unit) Tryd.prog 3)) hb1
  have hB := ((Below.refl w.heap.size w).alloc (Nat.le_refl _) (.map #[] 0)).trans (hb1.mono (by simp))
  clear hb1
  go_wp2_with fail
  go_loopw [6] (fun v wr => ∃ k : Nat, k ≤ 257 ∧ v = .int .i64 k ∧ wr.ownsMap Tryd.prog 3 (plainElem (H := Unit) Tryd.prog 3) w.heap.size k (pathD k) ∧ Below w.heap.size w wr) (fun v _ => 257 - (intOf v).toNat)
  case atStart => exact ⟨0, by omega, rfl, hown, hB⟩
  case round =>
    clear hown hB
    obtain ⟨k, hk, rfl, hown, hB⟩ := hrel
    by_cases hlt : k < 257
    · have hp := arr_part codeL_length k hlt .i64
      rw [codeL_at hlt] at hp
      have hb := len_bd hlt
      have hs := shl_one (len k) (by omega)
      have hcd := code_lt hlt
      have HO := Lib.hid (or_path hlt)
      clear hcd
      go_wp2_with fail
      refine (length_any k _ hlt).mono ?_
      rintro e w' ⟨rfl, n, rfl⟩
      have hwf : (Lit.int .i64 (bits .or .i64 (2 ^ len k) (code k))).wf = true := by
        rw [HO.out]
        have := path_lt hlt
        exact WalkArith.wf_i64 (by omega)
      have hwk : (Lit.int .i64 (k : Int)).wf = true := WalkArith.wf_i64 (by omega)
      have hown1 := owns_below hown (below_drewN (Below.refl _ wr) n)
      go_wp2_with (at_mapUpdate; refine wpList_mapUpdate_own _ rfl (.tmp 10) (.tmp 15) (.tmp 16) 144 rfl 3 3 Tryd.keyed Tryd.mapUnder _ w.heap.size k _ rfl hown1 (by unfold maxLen; omega) (.int .i64 (bits .or .i64 (2 ^ len k) (code k))) (.int .i64 k) (.int .i64 (bits .or .i64 (2 ^ len k) (code k))) rfl rfl (keyOf_int_mk Tryd.underlying3 hwf) (.lit (.int .i64 k)) [] (plainElem_int Tryd.underlying3 hwk) ?_; intro w2 hown2 hgrow2)
      go_roundw
      case rel =>
        refine ⟨k + 1, by omega, by go_num, ?_, (below_drewN hB n).grown hgrow2 hB.size (fun j hj => by cases hj; exact Nat.le_refl _)⟩
        rw [HO.out] at hown2
        exact hown2
      case measure => simp [intOf]; omega
    · obtain rfl : k = 257 := by omega
      go_wp2_with fail
      go_ret
      exact ⟨_, rfl, Nat.le_refl _, hown, hB⟩
end Go.Proofs.YtenapfpkegoonaaDoor
