/-
  Several texts of mine, one behind the other: Kit, Bits, Adr, WinRef, WinProg.
-/
import Derived.WalkKit
import Derived.Lib.Hide
import Derived.WalkSmall
import Derived.Laws.CopyOwn
import Derived.OpenShut
import Derived.WideShapes
import Derived.Deep.Draws
import Derived.Laws.BitsAllLaws
import Derived.Test.YtnoegbdmjinfjaaProg
import Derived.Deep.LoopGhost
import Derived.Deep.QuietTactic
import Derived.Lib.SliceRun

/-
  What slices of integers that are only read are, in a world, and how that is kept: words for the walks of this seat. No program is named here.
-/
namespace Go.Proofs.Ytnoegbdmjinfjaa
open Go.RowKit

/-- the number at a place of a list, 0 behind its end: a name of its own, so that no rule takes it apart -/
def at0 (zs : List Int) (i : Nat) : Int := zs.getD i 0
theorem at0_nil (i : Nat) : at0 [] i = 0 := by simp [at0]
theorem at0_take {zs : List Int} {n i : Nat} (h : i < n) : at0 (zs.take n) i = at0 zs i := by simp [at0, h]
theorem at0_drop (zs : List Int) (n i : Nat) : at0 (zs.drop n) i = at0 zs (n + i) := by simp [at0]
theorem at0_mem {zs : List Int} {i : Nat} (h : i < zs.length) : at0 zs i ∈ zs := by simp [at0, h]
theorem take_at0 (zs : List Int) (k : Nat) (h : k < zs.length) : zs.take (k + 1) = zs.take k ++ [at0 zs k] := by
  rw [List.take_succ_eq_append_getElem h]; simp [at0, h]
theorem ext_at0 {xs ys : List Int} (hl : xs.length = ys.length) (h : ∀ i, i < xs.length → at0 xs i = at0 ys i) : xs = ys := by
  apply List.ext_getElem hl
  intro i h1 h2
  have := h i h1
  simpa [at0, h1, h2] using this

/-- each number fits its kind -/
def Fit (k : IntKind) (zs : List Int) : Prop := ∀ n ∈ zs, (Lit.int k n).wf = true
theorem Fit.at0 {k : IntKind} {zs : List Int} (h : Fit k zs) (i : Nat) : (Lit.int k (at0 zs i)).wf = true := by
  by_cases hi : i < zs.length
  · exact h _ (at0_mem hi)
  · have e : Ytnoegbdmjinfjaa.at0 zs i = 0 := by simp [Ytnoegbdmjinfjaa.at0, List.getElem?_eq_none (by omega : zs.length ≤ i)]
    rw [e]; cases k <;> decide
theorem Fit.byte {zs : List Int} (h : Fit .u8 zs) (i : Nat) : 0 ≤ Ytnoegbdmjinfjaa.at0 zs i ∧ Ytnoegbdmjinfjaa.at0 zs i ≤ 255 := bounds_u8 (h.at0 i)
theorem Fit.take {k : IntKind} {zs : List Int} (h : Fit k zs) (n : Nat) : Fit k (zs.take n) := fun x hx => h x (List.mem_of_mem_take hx)
theorem Fit.drop {k : IntKind} {zs : List Int} (h : Fit k zs) (n : Nat) : Fit k (zs.drop n) := fun x hx => h x (List.mem_of_mem_drop hx)

/-- the value 'v' is a slice that reads as 'zs' -/
def Sl (k : IntKind) (w : World) (v : Value) (zs : List Int) : Prop :=
  ∃ a cap, v = .slice a zs.length cap ∧ zs.length ≤ cap ∧ cap ≤ maxLen ∧ Fit k zs ∧
    ((zs.length = 0 ∧ (a = none → cap = 0)) ∨ ∃ b off, a = some ⟨b, off, none⟩ ∧ b < w.heap.size ∧ ∀ i, i < zs.length → w.cell? ⟨b, off + i, none⟩ = some (.int k (at0 zs i)))

theorem Sl.fit {k : IntKind} {w : World} {v : Value} {zs : List Int} (h : Sl k w v zs) : Fit k zs := by
  obtain ⟨_, _, _, _, _, h, _⟩ := h; exact h
theorem Sl.len {k : IntKind} {w : World} {v : Value} {zs : List Int} (h : Sl k w v zs) : zs.length ≤ maxLen := by
  obtain ⟨_, _, _, h1, h2, _⟩ := h; exact Nat.le_trans h1 h2
theorem Sl.nil (k : IntKind) (w : World) : Sl k w (.slice none 0 0) [] := ⟨none, 0, rfl, Nat.le_refl _, by simp, fun x hx => by simp at hx, .inl ⟨rfl, fun _ => rfl⟩⟩
/-- empty; or with an address -/
theorem Sl.parts {k : IntKind} {w : World} {v : Value} {zs : List Int} (h : Sl k w v zs) :
    (zs = [] ∧ ∃ a cap, v = .slice a 0 cap) ∨
    (0 < zs.length ∧ ∃ b off cap, v = .slice (some ⟨b, off, none⟩) zs.length cap ∧ zs.length ≤ cap ∧ cap ≤ maxLen ∧ b < w.heap.size ∧ ∀ i, i < zs.length → w.cell? ⟨b, off + i, none⟩ = some (.int k (at0 zs i))) := by
  obtain ⟨a, cap, rfl, h1, h2, _, h3⟩ := h
  by_cases h0 : zs.length = 0
  · left
    obtain rfl := List.eq_nil_of_length_eq_zero h0
    exact ⟨rfl, a, cap, rfl⟩
  · right
    rcases h3 with ⟨h3, _⟩ | ⟨b, off, rfl, hb, hc⟩
    · exact absurd h3 h0
    · exact ⟨by omega, b, off, cap, rfl, h1, h2, hb, hc⟩
/-- a slice without an address has no room -/
theorem Sl.bare {k : IntKind} {w : World} {n cap : Nat} {zs : List Int} (h : Sl k w (.slice none n cap) zs) : n = 0 ∧ cap = 0 := by
  obtain ⟨a, c, e, _, _, _, h3⟩ := h
  simp only [Value.slice.injEq] at e
  obtain ⟨rfl, rfl, rfl⟩ := e
  rcases h3 with ⟨h3, h4⟩ | ⟨b, off, e, _⟩
  · exact ⟨h3, h4 rfl⟩
  · cases e
theorem Sl.below {k : IntKind} {w w' : World} {v : Value} {zs : List Int} (h : Sl k w v zs) (hb : Below w.heap.size w w') : Sl k w' v zs := by
  obtain ⟨a, cap, rfl, h1, h2, h4, h3⟩ := h
  refine ⟨a, cap, rfl, h1, h2, h4, ?_⟩
  rcases h3 with h3 | ⟨b, off, rfl, hlt, hc⟩
  · exact .inl h3
  · exact .inr ⟨b, off, rfl, Nat.lt_of_lt_of_le hlt hb.size, fun i hi => (hb.cell (p := ⟨b, off + i, none⟩) hlt).trans (hc i hi)⟩
theorem Sl.drewN {k : IntKind} {w : World} {v : Value} {zs : List Int} (h : Sl k w v zs) (n : Nat) : Sl k (w.drewN n) v zs := h.below (below_drewN (Below.refl _ _) n)
theorem Sl.drew {k : IntKind} {w : World} {v : Value} {zs : List Int} (h : Sl k w v zs) : Sl k w.drew v zs := h.below (Below.refl _ _).drew
theorem Sl.alloc {k : IntKind} {w : World} {v : Value} {zs : List Int} (h : Sl k w v zs) (o : Obj) : Sl k (w.alloc o) v zs := h.below ((Below.refl _ _).alloc (Nat.le_refl _) o)

theorem drawn1 (w : World) (a : Nat) : ∃ n, w.drewN a = w.drewN n := ⟨a, rfl⟩
theorem drawn2 (w : World) (a b : Nat) : ∃ n, (w.drewN a).drewN b = w.drewN n := ⟨a + b, by rw [World.drewN_drewN]⟩
theorem drawn3 (w : World) (a b c : Nat) : ∃ n, ((w.drewN a).drewN b).drewN c = w.drewN n := ⟨a + (b + c), by rw [World.drewN_drewN, World.drewN_drewN]⟩
/-- what a call owns reads so -/
theorem Sl.owned {k : IntKind} {w : World} {base : Nat} {e : TypeId} {v : Value} {zs : List Int} (h : w.ownsRow base e 1 v zs.length (zs.map (Value.int k))) (hf : Fit k zs) (hm : zs.length ≤ maxLen) : Sl k w v zs := by
  have h' := h
  obtain ⟨h1, h2⟩ := h
  rcases h2 with ⟨rfl, h3⟩ | ⟨g, cap, cur, rfl, hg, hblk, hnc, hcm, hcs, htake⟩
  · have e0 : zs = [] := by simpa using h3
    subst e0
    exact Sl.nil k w
  · refine ⟨some ⟨g, 0, none⟩, cap, rfl, hnc, hcm, hf, .inr ⟨g, 0, rfl, ?_, fun i hi => ?_⟩⟩
    · exact (h'.lt g rfl).2
    · have := h'.cellAt i (by omega)
      rw [Nat.zero_add, this]
      simp [at0, hi]

/-- a cell of what a call owns -/
theorem owned_cell {k : IntKind} {w : World} {base g n cap : Nat} {e : TypeId} {zs : List Int} (h : w.ownsRow base e 1 (.slice (some ⟨g, 0, none⟩) n cap) n (zs.map (Value.int k))) (j : Nat) (hj : j < n) :
    w.cell? ⟨g, j, none⟩ = some (.int k (at0 zs j)) := by
  have hl := h.1
  rw [List.length_map, Nat.mul_one] at hl
  rw [h.cellAt j (by omega)]
  simp [at0, show j < zs.length by omega]
theorem owned_store {k : IntKind} {w : World} {base g n cap : Nat} {e : TypeId} {zs : List Int} (h : w.ownsRow base e 1 (.slice (some ⟨g, 0, none⟩) n cap) n (zs.map (Value.int k))) (j : Nat) (z : Int) :
    (w.setCell ⟨g, j, none⟩ (.int k z)).ownsRow base e 1 (.slice (some ⟨g, 0, none⟩) n cap) n ((zs.set j z).map (Value.int k)) := by
  have := (h.stored j (.int k z)).1
  rwa [← List.map_set] at this
theorem made_zeros {k : IntKind} {w : World} {base n : Nat} {e : TypeId} {v : Value} (h : w.ownsRow base e 1 v n (madeCells (Value.int k 0).cells (n * 1)).toList) : w.ownsRow base e 1 v n ((List.replicate n 0).map (Value.int k)) := by
  rw [List.map_replicate]
  have e1 : (Value.int k 0).cells = #[.int k 0] := rfl
  rw [e1, toList_madeCells_one, Nat.mul_one] at h
  exact h

/-- a row that is full is its block -/
theorem own_block {w : World} {base g n : Nat} {e : TypeId} {xs : List Value} (h : w.ownsRow base e 1 (.slice (some ⟨g, 0, none⟩) n n) n xs) : w.heap[g]? = some (.cells xs.toArray e (0, 0)) := by
  obtain ⟨h1, h2⟩ := h
  rcases h2 with ⟨h2, _⟩ | ⟨g', cap, cur, h2, _, hg, _, _, hcs, ht⟩
  · simp at h2
  · simp only [Value.slice.injEq, Option.some.injEq, Addr.mk.injEq, and_true, true_and] at h2
    obtain ⟨rfl, rfl⟩ := h2
    rw [hg, ← ht, List.take_of_length_le (by rw [Array.length_toList]; omega)]
theorem Sl.block {k : IntKind} {w : World} {g : Nat} {e : TypeId} {zs : List Int} (h : w.heap[g]? = some (.cells (zs.map (Value.int k)).toArray e (0, 0))) (hf : Fit k zs) (hm : zs.length ≤ maxLen) :
    Sl k w (.slice (some ⟨g, 0, none⟩) zs.length zs.length) zs :=
  Sl.owned (base := 0) (e := e) ⟨by simp, .inr ⟨g, zs.length, _, rfl, Nat.zero_le _, h, Nat.le_refl _, hm, by simp, List.take_of_length_le (by simp)⟩⟩ hf hm
/-- a list of numbers that was just laid -/
theorem Sl.lit {k : IntKind} {w : World} {g n : Nat} {e : TypeId} {cs : Array Value} (zs : List Int) (hg : g = w.heap.size) (hc : cs = (zs.map (Value.int k)).toArray) (hn : n = zs.length) (hf : zs.all (fun n => (Lit.int k n).wf) = true) (hm : zs.length ≤ maxLen) :
    Sl k (w.alloc (.cells cs e)) (.slice (some ⟨g, 0, none⟩) n n) zs := by
  subst hg; subst hc; subst hn
  exact Sl.block (e := e) (heap_alloc_new w _) (fun n h => by simpa using List.all_eq_true.1 hf n h) hm
/-- the cells that lie there, one behind the other -/
theorem Sl.cells {k : IntKind} {w : World} {a : Option Addr} {n cap : Nat} {zs : List Int} (h : Sl k w (.slice a n cap) zs) : 0 < zs.length → ∃ ad, a = some ad ∧ ∀ j v, (zs.map (Value.int k))[j]? = some v → w.cell? (ad.add j) = some v := by
  intro h0
  obtain ⟨a', cap', e, _, _, _, h3⟩ := h
  simp only [Value.slice.injEq] at e
  obtain ⟨rfl, rfl, rfl⟩ := e
  rcases h3 with ⟨h3, _⟩ | ⟨b, off, rfl, _, hc⟩
  · omega
  · refine ⟨_, rfl, fun j v hj => ?_⟩
    have hlt : j < zs.length := by
      have := List.getElem?_eq_some_iff.1 hj
      obtain ⟨h, _⟩ := this
      simpa using h
    rw [Go.WideShapes.add_plain, hc j hlt]
    simp [hlt] at hj
    rw [← hj]
    simp [at0, hlt]
/-- one of its cells -/
theorem Sl.at_ {k : IntKind} {w : World} {b off n cap : Nat} {zs : List Int} (h : Sl k w (.slice (some ⟨b, off, none⟩) n cap) zs) (i : Nat) (hi : i < zs.length) : w.cell? ⟨b, off + i, none⟩ = some (.int k (at0 zs i)) := by
  obtain ⟨a', cap', e, _, _, _, h3⟩ := h
  simp only [Value.slice.injEq] at e
  obtain ⟨e1, rfl, rfl⟩ := e
  rcases h3 with ⟨h3, _⟩ | ⟨b', off', e2, _, hc⟩
  · omega
  · rw [← e1] at e2
    simp only [Option.some.injEq, Addr.mk.injEq, and_true] at e2
    obtain ⟨rfl, rfl⟩ := e2
    exact hc i hi
theorem splice_whole {α : Type} (l m : List α) (h : m.length = l.length) : splice l 0 m = m := by simp [splice, h]
/-- a cut of a slice: 'v[lo:hi]', at whatever capacity -/
theorem Sl.run_cut {k : IntKind} {w : World} {a : Option Addr} {n cap : Nat} {zs : List Int}
    (h : Sl k w (.slice a n cap) zs) (lo hi : Nat) (h1 : lo ≤ hi) (h2 : hi ≤ zs.length) : Sl k w (sliced a lo hi cap 1) ((zs.take hi).drop lo) := by
  have hfit := h.fit
  obtain ⟨a', cap', e, hc1, hc2, _, h3⟩ := h
  simp only [Value.slice.injEq] at e
  obtain ⟨rfl, rfl, rfl⟩ := e
  have el : ((zs.take hi).drop lo).length = hi - lo := by simp; omega
  refine ⟨if cap = lo then a else a.map (·.add (lo * 1)), cap - lo, by rw [el]; rfl, by omega, by omega, (hfit.take hi).drop lo, ?_⟩
  by_cases h0 : hi - lo = 0
  · refine .inl ⟨by omega, fun he => ?_⟩
    by_cases hcl : cap = lo
    · omega
    · rw [if_neg hcl] at he
      rcases h3 with ⟨_, h3⟩ | ⟨b, off, rfl, _⟩
      · cases a with
        | none => have := h3 rfl; omega
        | some x => simp at he
      · simp at he
  · right
    rcases h3 with ⟨h3, _⟩ | ⟨b, off, rfl, hb, hc⟩
    · omega
    · refine ⟨b, off + lo, ?_, hb, fun i hi' => ?_⟩
      · rw [if_neg (by omega), Nat.mul_one]
        simp [Go.WideShapes.add_plain]
      · rw [at0_drop, at0_take (by omega), ← hc (lo + i) (by omega), Nat.add_assoc]
/-- 'v[lo:]': its run, under a name -/
theorem Sl.from_ {P : Program} {t : TypeId} (ht : P.underlying t = some (.slice (P.elem t))) (he : ∀ w, (sizeOf (P.elem t)).run P w = .ok 1 w) {k : IntKind} {w : World} {a : Option Addr} {n cap : Nat} {zs : List Int}
    (h : Sl k w (.slice a n cap) zs) (lo : Int) (h0 : 0 ≤ lo) (h1 : lo ≤ zs.length) :
    ∃ v, (∀ (kl : IntKind) (w1 : World), (Instr.slice t (.slice a n cap) (some (.int kl lo)) none none).run P w1 = .ok v w1) ∧ Sl k w v (zs.drop lo.toNat) := by
  have hn : n = zs.length := by obtain ⟨_, _, e, _⟩ := h; simp only [Value.slice.injEq] at e; exact e.2.1
  refine ⟨sliced a lo.toNat n cap 1, fun kl w1 => ?_, ?_⟩
  · rw [run_slice_l w1 t a n cap ht kl lo h0 (by omega), he]; rfl
  · have := Sl.run_cut h lo.toNat n (by omega) (by omega)
    rwa [List.take_of_length_le (by omega)] at this
/-- 'v[:hi]': its run, under a name -/
theorem Sl.upto {P : Program} {t : TypeId} (ht : P.underlying t = some (.slice (P.elem t))) (he : ∀ w, (sizeOf (P.elem t)).run P w = .ok 1 w) {k : IntKind} {w : World} {a : Option Addr} {n cap : Nat} {zs : List Int}
    (h : Sl k w (.slice a n cap) zs) (hi : Int) (h0 : 0 ≤ hi) (h1 : hi ≤ zs.length) :
    ∃ v, (∀ (kl : IntKind) (w1 : World), (Instr.slice t (.slice a n cap) none (some (.int kl hi)) none).run P w1 = .ok v w1) ∧ Sl k w v (zs.take hi.toNat) := by
  have hcap : zs.length ≤ cap := by obtain ⟨_, _, e, h, _⟩ := h; simp only [Value.slice.injEq] at e; obtain ⟨rfl, rfl, rfl⟩ := e; exact h
  refine ⟨sliced a 0 hi.toNat cap 1, fun kl w1 => ?_, ?_⟩
  · rw [run_slice_h w1 t a n cap ht kl hi h0 (by omega), he]; rfl
  · have := Sl.run_cut h 0 hi.toNat (by omega) (by omega)
    rwa [List.drop_zero] at this

/-- 'v[lo:hi]': its run, under a name -/
theorem Sl.range {P : Program} {t : TypeId} (ht : P.underlying t = some (.slice (P.elem t))) (he : ∀ w, (sizeOf (P.elem t)).run P w = .ok 1 w) {k : IntKind} {w : World} {a : Option Addr} {n cap : Nat} {zs : List Int}
    (h : Sl k w (.slice a n cap) zs) (lo hi : Int) (h0 : 0 ≤ lo) (h1 : lo ≤ hi) (h2 : hi ≤ zs.length) :
    ∃ v, (∀ (kl kh : IntKind) (w1 : World), (Instr.slice t (.slice a n cap) (some (.int kl lo)) (some (.int kh hi)) none).run P w1 = .ok v w1) ∧ Sl k w v ((zs.take hi.toNat).drop lo.toNat) := by
  have hcap : zs.length ≤ cap := by obtain ⟨_, _, e, h, _⟩ := h; simp only [Value.slice.injEq] at e; obtain ⟨rfl, rfl, rfl⟩ := e; exact h
  refine ⟨sliced a lo.toNat hi.toNat cap 1, fun kl kh w1 => ?_, Sl.run_cut h lo.toNat hi.toNat (by omega) (by omega)⟩
  rw [run_slice_lh w1 t a n cap ht kl kh lo hi h0 h1 (by omega), he]; rfl

/-- an argument that came in -/
theorem Sl.of_row {k : IntKind} {w : World} {a : Option Addr} {len cap : Nat} {zs : List Int} (hl : len ≤ cap) (hm : cap ≤ maxLen) (hz : zs.length = cap) (hw : ∀ n ∈ zs, (Lit.int k n).wf = true)
    (hc : ∀ x, a = some x → ∀ i, i < zs.length → w.cell? (x.add i) = some (.int k (zs.getD i 0))) (hn : a = none → cap = 0) : Sl k w (.slice a len cap) (zs.take len) := by
  have e : (zs.take len).length = len := by simp; omega
  refine ⟨a, cap, by rw [e], by omega, hm, fun n hn => hw n (List.mem_of_mem_take hn), ?_⟩
  rw [e]
  by_cases h0 : len = 0
  · exact .inl ⟨h0, hn⟩
  · right
    cases a with
    | none => have := hn rfl; omega
    | some x =>
      obtain ⟨b, off, spot⟩ := x
      have hc0 := hc _ rfl 0 (by omega)
      have hspot : spot = none := by simpa [Addr.add] using World.cell?_spot hc0
      subst hspot
      refine ⟨b, off, rfl, ?_, fun i hi => ?_⟩
      · simp only [Addr.add, Nat.add_zero] at hc0
        by_cases hb : b < w.heap.size
        · exact hb
        · simp [World.cell?, Array.getElem?_eq_none (by omega : w.heap.size ≤ b)] at hc0
      · have := hc _ rfl i (by omega)
        rw [at0_take hi, ← Go.WideShapes.add_plain]
        exact this

end Go.Proofs.Ytnoegbdmjinfjaa

/-
  Go's bit operations on int, at numbers that are not negative: plain mathematics, no program is named here.
-/
namespace Go.Proofs.Ytnoegbdmjinfjaa
open Go.RowKit

theorem wrap_i64_small {n : Int} (h1 : 0 ≤ n) (h2 : n < 9223372036854775808) : IntKind.i64.wrap n = n := by
  simp [IntKind.wrap, IntKind.bits, IntKind.signed]; omega
theorem i64_or (a b : Int) (h1 : 0 ≤ a) (h2 : a < 9223372036854775808) (h3 : 0 ≤ b) (h4 : b < 9223372036854775808) : bits .or .i64 a b = ((a.toNat ||| b.toNat : Nat) : Int) := by
  obtain ⟨A, rfl⟩ := Int.eq_ofNat_of_zero_le h1
  obtain ⟨B, rfl⟩ := Int.eq_ofNat_of_zero_le h3
  have hx : A ||| B < 2 ^ 63 := Nat.or_lt_two_pow (by omega) (by omega)
  show IntKind.i64.wrap ((BitVec.ofInt 64 (A : Int) ||| BitVec.ofInt 64 (B : Int)).toNat : Int) = _
  rw [BitVec.toNat_or, ofInt_u64 A (by omega), ofInt_u64 B (by omega), wrap_i64_small (by omega) (by omega)]
  simp
theorem i64_and (a b : Int) (h1 : 0 ≤ a) (h2 : a < 9223372036854775808) (h3 : 0 ≤ b) (h4 : b < 9223372036854775808) : bits .and .i64 a b = ((a.toNat &&& b.toNat : Nat) : Int) := by
  obtain ⟨A, rfl⟩ := Int.eq_ofNat_of_zero_le h1
  obtain ⟨B, rfl⟩ := Int.eq_ofNat_of_zero_le h3
  have hx : A &&& B < 2 ^ 63 := Nat.and_lt_two_pow _ (by omega)
  show IntKind.i64.wrap ((BitVec.ofInt 64 (A : Int) &&& BitVec.ofInt 64 (B : Int)).toNat : Int) = _
  rw [BitVec.toNat_and, ofInt_u64 A (by omega), ofInt_u64 B (by omega), wrap_i64_small (by omega) (by omega)]
  simp
/-- what is joined by 'or' to a number that ends in so many zeros is added -/
theorem i64_join (i : Nat) (x y : Int) (h1 : 0 ≤ x) (h2 : x < 9223372036854775808) (hx : x % 2 ^ i = 0) (h3 : 0 ≤ y) (h4 : y < 2 ^ i) (h5 : y < 9223372036854775808) : bits .or .i64 x y = x + y := by
  rw [i64_or x y h1 h2 h3 h5]
  obtain ⟨A, rfl⟩ := Int.eq_ofNat_of_zero_le h1
  obtain ⟨B, rfl⟩ := Int.eq_ofNat_of_zero_le h3
  simp only [Int.toNat_natCast]
  rw [nat_join i A B (by exact_mod_cast hx) (by exact_mod_cast h4)]
  simp
/-- a byte joined below -/
theorem or_byte (m z : Int) (h1 : 0 ≤ m) (h2 : m < 36028797018963968) (h3 : 0 ≤ z) (h4 : z ≤ 255) : bits .or .i64 (m * 256) z = 256 * m + z := by
  rw [i64_join 8 (m * 256) z (by omega) (by omega) (by omega) h3 (by omega) (by omega)]
  omega

end Go.Proofs.Ytnoegbdmjinfjaa

/-
  A slice that is not empty: where it lies. No program is named here.
-/
namespace Go.Proofs.Ytnoegbdmjinfjaa
open Go.RowKit

theorem Sl.adr {k : IntKind} {w : World} {a : Option Addr} {n cap : Nat} {zs : List Int} (h : Sl k w (.slice a n cap) zs) (i : Nat) (hi : i < zs.length) :
    ∃ b off, a = some ⟨b, off, none⟩ ∧ b < w.heap.size ∧ w.cell? ⟨b, off + i, none⟩ = some (.int k (at0 zs i)) := by
  obtain ⟨a', cap', e, _, _, _, h3⟩ := h
  simp only [Value.slice.injEq] at e
  obtain ⟨rfl, rfl, rfl⟩ := e
  rcases h3 with ⟨h3, _⟩ | ⟨b, off, rfl, hb, hc⟩
  · omega
  · exact ⟨b, off, rfl, hb, hc i hi⟩
end Go.Proofs.Ytnoegbdmjinfjaa

/-
  Layer 15's reference: Right, Grow, Take, Shift, Room.
-/
namespace Go.Proofs.Ytnoegbdmjinfjaa
set_option maxRecDepth 20000
open Go.RowKit

def winB (w : Int) : Bool := decide (-2147483648 ≤ w ∧ w ≤ 2147483647)
def growW (w n : Int) : Int × Bool := if winB w = true ∧ 0 ≤ n ∧ n ≤ 2147483647 ∧ n ≤ 2147483647 - w then (w + n, true) else (w, false)
def takeW (w n : Int) : Int × Bool := if winB w = true ∧ 0 ≤ n ∧ n ≤ w then (w - n, true) else (w, false)
def shiftW (w n : Int) : Int × Bool := if winB w = true ∧ -2147483647 ≤ n ∧ n ≤ 2147483647 ∧ winB (w + n) = true then (w + n, true) else (w, false)
def roomW (n : Int) (l : List Int) : Int := max (l.foldl min n) 0
def tupW (x : Int × Bool) : Value := .tuple #[.int .i64 x.1, .bool x.2]
theorem winB_rng {w : Int} (h : winB w = true) : -2147483648 ≤ w ∧ w ≤ 2147483647 := of_decide_eq_true h
theorem refWin_any (x : Int) (w : World) :
    Calls Try.prog 39 #[.int .i64 x] w fun e w' => e = .returned (.bool (winB x)) ∧ w' = w := by
  have HD := Lib.hid (show winB x = (decide (-2147483648 ≤ x) && decide (x ≤ 2147483647)) by unfold winB; rw [Bool.decide_and])
  obtain ⟨b, hb⟩ : ∃ b, decide (-2147483648 ≤ x) = b := ⟨_, rfl⟩
  rw [hb] at HD
  cases b
  all_goals
    go_enter Try.func39, Try.ntmps39
    go_wp2_with fail
    go_ret
    exact ⟨by rw [HD.out]; rfl, rfl⟩
set_option maxHeartbeats 1000000 in
theorem refGrow_any (x n : Int) (w : World) :
    Calls Try.prog 21 #[.int .i64 x, .int .i64 n] w fun e w' => e = .returned (tupW (growW x n)) ∧ w' = w := by
  by_cases h : winB x = true ∧ 0 ≤ n ∧ n ≤ 2147483647 ∧ n ≤ 2147483647 - x
  · have HG := Lib.hid (show growW x n = (x + n, true) by unfold growW; rw [if_pos h])
    have HW := Lib.hid h.1
    have hx := winB_rng h.1
    obtain ⟨_, h2, h3, h4⟩ := h
    have d1 : decide (n < 0) = false := decide_eq_false (by omega)
    have d2 : decide (2147483647 < n) = false := decide_eq_false (by omega)
    have d3 : decide (2147483647 - x < n) = false := decide_eq_false (by omega)
    go_enter Try.func21, Try.ntmps21
    go_wp2_with fail
    refine (refWin_any _ _).mono ?_
    rintro e w1 ⟨rfl, rfl⟩
    rw [HW.out]
    go_wp2_with fail
    go_ret2
    exact ⟨by rw [HG.out]; rfl, rfl⟩
  · have HG := Lib.hid (show growW x n = (x, false) by unfold growW; rw [if_neg h])
    obtain ⟨b, hb⟩ : ∃ b, winB x = b := ⟨_, rfl⟩
    have HW := Lib.hid hb
    cases b
    · clear h hb
      go_enter Try.func21, Try.ntmps21
      go_wp2_with fail
      refine (refWin_any _ _).mono ?_
      rintro e w1 ⟨rfl, rfl⟩
      rw [HW.out]
      go_wp2_with fail
      go_ret2
      exact ⟨by rw [HG.out]; rfl, rfl⟩
    · have hx := winB_rng hb
      have HN := Lib.hid (show ¬ (0 ≤ n ∧ n ≤ 2147483647 ∧ n ≤ 2147483647 - x) from fun q => h ⟨hb, q⟩)
      clear h hb
      go_enter Try.func21, Try.ntmps21
      go_wp2_with fail
      refine (refWin_any _ _).mono ?_
      rintro e w1 ⟨rfl, rfl⟩
      rw [HW.out]
      go_wp2_with fail
      all_goals first
        | (exfalso; have := HN.out; omega)
        | (go_ret2; exact ⟨by rw [HG.out]; rfl, rfl⟩)
set_option maxHeartbeats 1000000 in
theorem refShift_any (x n : Int) (w : World) :
    Calls Try.prog 19 #[.int .i64 x, .int .i64 n] w fun e w' => e = .returned (tupW (shiftW x n)) ∧ w' = w := by
  obtain ⟨b, hb⟩ : ∃ b, winB x = b := ⟨_, rfl⟩
  have HW := Lib.hid hb
  cases b
  · have HG := Lib.hid (show shiftW x n = (x, false) by unfold shiftW; rw [if_neg (fun q => by rw [hb] at q; cases q.1)])
    clear hb
    go_enter Try.func19, Try.ntmps19
    go_wp2_with fail
    refine (refWin_any _ _).mono ?_
    rintro e w1 ⟨rfl, rfl⟩
    rw [HW.out]
    go_wp2_with fail
    go_ret2
    exact ⟨by rw [HG.out]; rfl, rfl⟩
  · have hx := winB_rng hb
    by_cases h : -2147483647 ≤ n ∧ n ≤ 2147483647
    · obtain ⟨h1, h2⟩ := h
      have d1 : decide (n < -2147483647) = false := decide_eq_false (by omega)
      have d2 : decide (2147483647 < n) = false := decide_eq_false (by omega)
      obtain ⟨c, hc⟩ : ∃ c, winB (x + n) = c := ⟨_, rfl⟩
      have HC := Lib.hid hc
      have HG := Lib.hid (show shiftW x n = (bif c then x + n else x, c) by
        unfold shiftW
        cases c
        · rw [if_neg (fun q => by rw [hc] at q; cases q.2.2.2)]; rfl
        · rw [if_pos ⟨hb, h1, h2, hc⟩]; rfl)
      clear hb hc
      go_enter Try.func19, Try.ntmps19
      go_wp2_with fail
      refine (refWin_any _ _).mono ?_
      rintro e w1 ⟨rfl, rfl⟩
      rw [HW.out]
      go_wp2_with fail
      refine (refWin_any _ _).mono ?_
      rintro e w1 ⟨rfl, rfl⟩
      rw [HC.out]
      cases c
      all_goals
        go_wp2_with fail
        go_ret2
        exact ⟨by rw [HG.out]; rfl, rfl⟩
    · have HG := Lib.hid (show shiftW x n = (x, false) by unfold shiftW; rw [if_neg (fun q => h ⟨q.2.1, q.2.2.1⟩)])
      have HN := Lib.hid h
      clear h hb
      go_enter Try.func19, Try.ntmps19
      go_wp2_with fail
      refine (refWin_any _ _).mono ?_
      rintro e w1 ⟨rfl, rfl⟩
      rw [HW.out]
      go_wp2_with fail
      all_goals first
        | (exfalso; have := HN.out; omega)
        | (go_ret2; exact ⟨by rw [HG.out]; rfl, rfl⟩)
set_option maxHeartbeats 1000000 in
theorem refRoom_any (n : Int) (v : Value) (l : List Int) (w : World) (h : Sl .i64 w v l) :
    Calls Try.prog 65 #[.int .i64 n, v] w fun e w' => e = .returned (.int .i64 (roomW n l)) ∧ w' = w := by
  have hml := h.len
  unfold maxLen at hml
  obtain ⟨a, c, rfl, _⟩ := id h
  obtain ⟨N, hN⟩ : ∃ N, N = l.length := ⟨_, rfl⟩
  rw [← hN] at h hml ⊢
  have HN := Lib.hid hN
  clear hN
  go_enter Try.func65, Try.ntmps65
  go_wp2_with fail
  go_loopg [5, 6] N (fun q s5 s6 wr => ∃ k : Nat, k + q = N ∧ s6 = .int .i64 k ∧ (∃ z : Int, s5 = .int .i64 z ∧ Hid (z = (l.take k).foldl min n)) ∧ wr = w)
  case atStart => exact ⟨0, by omega, rfl, ⟨n, rfl, Lib.hid rfl⟩, rfl⟩
  case round =>
    obtain ⟨k, hkq, rfl, ⟨z, rfl, HL⟩, rfl⟩ := hrel
    have HKQ := Lib.hid hkq
    have hk : k ≤ N := by omega
    clear hkq
    by_cases hlt : k < N
    · obtain ⟨b, off, rfl, hb, c0⟩ := h.adr k (by rw [← HN.out]; exact hlt)
      have hl : (l.take (k + 1)).foldl min n = min z (at0 l k) := by rw [take_at0 l k (by rw [← HN.out]; exact hlt), List.foldl_append, HL.out]; rfl
      obtain ⟨y, hy⟩ : ∃ y, at0 l k = y := ⟨_, rfl⟩
      rw [hy] at hl c0
      have HE := Lib.hid hl
      clear hl hy
      go_wp2_with fail
      all_goals
        go_roundg (N - (k + 1))
        case measure => have := HKQ.out; omega
        case rel => exact ⟨k + 1, by omega, by go_num, ⟨_, rfl, Lib.hid (by rw [HE.out]; omega)⟩, rfl⟩
    · obtain rfl : k = N := by omega
      have HE := Lib.hid (show z = l.foldl min n by rw [HL.out, List.take_of_length_le (by rw [HN.out]; exact Nat.le_refl _)])
      clear hlt hk
      go_wp2_with fail
      all_goals
        go_ret
        refine ⟨?_, rfl⟩
        unfold roomW
        rw [← HE.out]
        first
          | (rw [show max z 0 = 0 by omega]; rfl)
          | (rw [show max z 0 = z by omega]; rfl)
end Go.Proofs.Ytnoegbdmjinfjaa

/-
  Layer 15: the program's own functions: within, Right, Grow, Take, Shift, Room.
-/
namespace Go.Proofs.Ytnoegbdmjinfjaa
set_option maxRecDepth 20000
open Go.RowKit

def winIn (n a b : Int) : Bool := decide (a ≤ n) && decide (n ≤ b)
theorem winIn_yes {n a b : Int} (h : a ≤ n ∧ n ≤ b) : winIn n a b = true := by
  unfold winIn
  rw [decide_eq_true h.1, decide_eq_true h.2]; rfl
theorem winIn_no {n a b : Int} (h : ¬ (a ≤ n ∧ n ≤ b)) : winIn n a b = false := by
  unfold winIn
  by_cases h1 : a ≤ n
  · rw [decide_eq_true h1, decide_eq_false (fun q => h ⟨h1, q⟩)]; rfl
  · rw [decide_eq_false h1]; rfl
theorem winIn_rng {n a b : Int} (h : winIn n a b = true) : a ≤ n ∧ n ≤ b := by
  by_cases q : a ≤ n ∧ n ≤ b
  · exact q
  · rw [winIn_no q] at h; cases h
theorem winIn_win (x : Int) : winIn x (-2147483648) 2147483647 = winB x := by
  unfold winIn winB; rw [Bool.decide_and]
theorem winIn_any (n a b : Int) (w : World) :
    Calls Try.prog 56 #[.int .i64 n, .int .i64 a, .int .i64 b] w fun e w' => e = .returned (.bool (winIn n a b)) ∧ w' = w := by
  have HD := Lib.hid (show winIn n a b = (decide (a ≤ n) && decide (n ≤ b)) from rfl)
  obtain ⟨c, hc⟩ : ∃ c, decide (a ≤ n) = c := ⟨_, rfl⟩
  rw [hc] at HD
  cases c
  all_goals
    go_enter Try.func56, Try.ntmps56
    go_wp2_with fail
    go_ret
    exact ⟨by rw [HD.out]; rfl, rfl⟩
theorem win_same (x : Int) (w : World) :
    Calls Try.prog 40 #[.int .i64 x] w fun e w' => e = .returned (.bool (winB x)) ∧ w' = w := by
  go_enter Try.func40, Try.ntmps40
  go_wp2_with fail
  refine (winIn_any _ _ _ _).mono ?_
  rintro e w1 ⟨rfl, rfl⟩
  go_wp2_with fail
  go_ret
  exact ⟨by rw [winIn_win]; rfl, rfl⟩
set_option maxHeartbeats 1000000 in
theorem take_same (x n : Int) (w : World) :
    Calls Try.prog 63 #[.int .i64 x, .int .i64 n] w fun e w' => e = .returned (tupW (takeW x n)) ∧ w' = w := by
  obtain ⟨b, hb⟩ : ∃ b, winB x = b := ⟨_, rfl⟩
  have HW := Lib.hid hb
  cases b
  · have HG := Lib.hid (show takeW x n = (x, false) by unfold takeW; rw [if_neg (fun q => by rw [hb] at q; cases q.1)])
    clear hb
    go_enter Try.func63, Try.ntmps63
    go_wp2_with fail
    refine (win_same _ _).mono ?_
    rintro e w1 ⟨rfl, rfl⟩
    rw [HW.out]
    go_wp2_with fail
    go_ret2
    exact ⟨by rw [HG.out]; rfl, rfl⟩
  · have hx := winB_rng hb
    by_cases h : 0 ≤ n ∧ n ≤ x
    · have HG := Lib.hid (show takeW x n = (x - n, true) by unfold takeW; rw [if_pos ⟨hb, h⟩])
      have HI := Lib.hid (winIn_yes h)
      obtain ⟨h1, h2⟩ := h
      clear hb
      go_enter Try.func63, Try.ntmps63
      go_wp2_with fail
      refine (win_same _ _).mono ?_
      rintro e w1 ⟨rfl, rfl⟩
      rw [HW.out]
      go_wp2_with fail
      refine (winIn_any _ _ _ _).mono ?_
      rintro e w1 ⟨rfl, rfl⟩
      rw [HI.out]
      go_wp2_with fail
      go_ret2
      exact ⟨by rw [HG.out]; rfl, rfl⟩
    · have HG := Lib.hid (show takeW x n = (x, false) by unfold takeW; rw [if_neg (fun q => h q.2)])
      have HI := Lib.hid (winIn_no h)
      clear h hb
      go_enter Try.func63, Try.ntmps63
      go_wp2_with fail
      refine (win_same _ _).mono ?_
      rintro e w1 ⟨rfl, rfl⟩
      rw [HW.out]
      go_wp2_with fail
      refine (winIn_any _ _ _ _).mono ?_
      rintro e w1 ⟨rfl, rfl⟩
      rw [HI.out]
      go_wp2_with fail
      go_ret2
      exact ⟨by rw [HG.out]; rfl, rfl⟩
set_option maxHeartbeats 1000000 in
theorem shift_same (x n : Int) (w : World) :
    Calls Try.prog 52 #[.int .i64 x, .int .i64 n] w fun e w' => e = .returned (tupW (shiftW x n)) ∧ w' = w := by
  obtain ⟨b, hb⟩ : ∃ b, winB x = b := ⟨_, rfl⟩
  have HW := Lib.hid hb
  cases b
  · have HG := Lib.hid (show shiftW x n = (x, false) by unfold shiftW; rw [if_neg (fun q => by rw [hb] at q; cases q.1)])
    clear hb
    go_enter Try.func52, Try.ntmps52
    go_wp2_with fail
    refine (win_same _ _).mono ?_
    rintro e w1 ⟨rfl, rfl⟩
    rw [HW.out]
    go_wp2_with fail
    go_ret2
    exact ⟨by rw [HG.out]; rfl, rfl⟩
  · have hx := winB_rng hb
    by_cases h : -2147483647 ≤ n ∧ n ≤ 2147483647
    · have HI := Lib.hid (winIn_yes h)
      obtain ⟨h1, h2⟩ := h
      obtain ⟨c, hc⟩ : ∃ c, winB (x + n) = c := ⟨_, rfl⟩
      have HC := Lib.hid hc
      have HG := Lib.hid (show shiftW x n = (bif c then x + n else x, c) by
        unfold shiftW
        cases c
        · rw [if_neg (fun q => by rw [hc] at q; cases q.2.2.2)]; rfl
        · rw [if_pos ⟨hb, h1, h2, hc⟩]; rfl)
      clear hb hc
      go_enter Try.func52, Try.ntmps52
      go_wp2_with fail
      refine (win_same _ _).mono ?_
      rintro e w1 ⟨rfl, rfl⟩
      rw [HW.out]
      go_wp2_with fail
      refine (winIn_any _ _ _ _).mono ?_
      rintro e w1 ⟨rfl, rfl⟩
      rw [HI.out]
      go_wp2_with fail
      refine (win_same _ _).mono ?_
      rintro e w1 ⟨rfl, rfl⟩
      rw [HC.out]
      cases c
      all_goals
        go_wp2_with fail
        go_ret2
        exact ⟨by rw [HG.out]; rfl, rfl⟩
    · have HG := Lib.hid (show shiftW x n = (x, false) by unfold shiftW; rw [if_neg (fun q => h ⟨q.2.1, q.2.2.1⟩)])
      have HI := Lib.hid (winIn_no h)
      clear h hb
      go_enter Try.func52, Try.ntmps52
      go_wp2_with fail
      refine (win_same _ _).mono ?_
      rintro e w1 ⟨rfl, rfl⟩
      rw [HW.out]
      go_wp2_with fail
      refine (winIn_any _ _ _ _).mono ?_
      rintro e w1 ⟨rfl, rfl⟩
      rw [HI.out]
      go_wp2_with fail
      go_ret2
      exact ⟨by rw [HG.out]; rfl, rfl⟩
theorem grow_shift (x n : Int) (h : 0 ≤ n ∧ n ≤ 2147483647) : growW x n = shiftW x n := by
  unfold growW shiftW
  by_cases hb : winB x = true
  · have hx := winB_rng hb
    by_cases q : n ≤ 2147483647 - x
    · rw [if_pos ⟨hb, h.1, h.2, q⟩, if_pos ⟨hb, by omega, h.2, decide_eq_true (by omega)⟩]
    · rw [if_neg (fun p => q p.2.2.2), if_neg (fun p => by have := winB_rng p.2.2.2; omega)]
  · rw [if_neg (fun p => hb p.1), if_neg (fun p => hb p.1)]
set_option maxHeartbeats 1000000 in
theorem grow_same (x n : Int) (w : World) :
    Calls Try.prog 51 #[.int .i64 x, .int .i64 n] w fun e w' => e = .returned (tupW (growW x n)) ∧ w' = w := by
  by_cases h : 0 ≤ n ∧ n ≤ 2147483647
  · have HI := Lib.hid (winIn_yes h)
    have HG := Lib.hid (grow_shift x n h)
    clear h
    go_enter Try.func51, Try.ntmps51
    go_wp2_with fail
    refine (winIn_any _ _ _ _).mono ?_
    rintro e w1 ⟨rfl, rfl⟩
    rw [HI.out]
    go_wp2_with fail
    refine (shift_same _ _ _).mono ?_
    rintro e w1 ⟨rfl, rfl⟩
    rw [← HG.out]
    unfold tupW
    go_wp2_with fail
    go_ret2
    exact ⟨rfl, rfl⟩
  · have HI := Lib.hid (winIn_no h)
    have HG := Lib.hid (show growW x n = (x, false) by unfold growW; rw [if_neg (fun q => h ⟨q.2.1, q.2.2.1⟩)])
    clear h
    go_enter Try.func51, Try.ntmps51
    go_wp2_with fail
    refine (winIn_any _ _ _ _).mono ?_
    rintro e w1 ⟨rfl, rfl⟩
    rw [HI.out]
    go_wp2_with fail
    go_ret2
    exact ⟨by rw [HG.out]; rfl, rfl⟩
set_option maxHeartbeats 1000000 in
theorem room_same (n : Int) (v : Value) (l : List Int) (w : World) (h : Sl .i64 w v l) :
    Calls Try.prog 46 #[.int .i64 n, v] w fun e w' => e = .returned (.int .i64 (roomW n l)) ∧ w' = w := by
  have hml := h.len
  unfold maxLen at hml
  obtain ⟨a, c, rfl, _⟩ := id h
  obtain ⟨N, hN⟩ : ∃ N, N = l.length := ⟨_, rfl⟩
  rw [← hN] at h hml ⊢
  have HN := Lib.hid hN
  clear hN
  go_enter Try.func46, Try.ntmps46
  go_wp2_with fail
  go_loopg [0, 6, 9] N (fun q s0 s6 s9 wr => ∃ k : Nat, k + q = N ∧ s9 = .int .i64 k ∧ (∃ z : Int, s0 = .int .i64 z ∧ Hid (z = (l.take k).foldl min n)) ∧ wr = w)
  case atStart => exact ⟨0, by omega, rfl, ⟨n, rfl, Lib.hid rfl⟩, rfl⟩
  case round =>
    obtain ⟨k, hkq, rfl, ⟨z, rfl, HL⟩, rfl⟩ := hrel
    have HKQ := Lib.hid hkq
    have hk : k ≤ N := by omega
    clear hkq
    by_cases hlt : k < N
    · obtain ⟨b, off, rfl, hb, c0⟩ := h.adr k (by rw [← HN.out]; exact hlt)
      have hl : (l.take (k + 1)).foldl min n = min z (at0 l k) := by rw [take_at0 l k (by rw [← HN.out]; exact hlt), List.foldl_append, HL.out]; rfl
      obtain ⟨y, hy⟩ : ∃ y, at0 l k = y := ⟨_, rfl⟩
      rw [hy] at hl c0
      have HE := Lib.hid hl
      clear hl hy
      go_wp2_with fail
      all_goals
        go_roundg (N - (k + 1))
        case measure => have := HKQ.out; omega
        case rel => exact ⟨k + 1, by omega, by go_num, ⟨_, rfl, Lib.hid (by rw [HE.out]; omega)⟩, rfl⟩
    · obtain rfl : k = N := by omega
      have HE := Lib.hid (show z = l.foldl min n by rw [HL.out, List.take_of_length_le (by rw [HN.out]; exact Nat.le_refl _)])
      clear hlt hk
      go_wp2_with fail
      all_goals
        go_ret
        refine ⟨?_, rfl⟩
        unfold roomW
        rw [← HE.out]
        first
          | (rw [show max z 0 = 0 by omega]; rfl)
          | (rw [show max z 0 = z by omega]; rfl)

theorem pWin_any (x : Int) (w : World) :
    Calls Try.prog 40 #[.int .i64 x] w fun e w' => e = .returned (.bool (winB x)) ∧ Below w.heap.size w w' := by
  refine (win_same x w).mono ?_
  rintro e w1 ⟨rfl, rfl⟩
  exact ⟨rfl, Below.refl _ _⟩
theorem pGrow_any (x n : Int) (w : World) :
    Calls Try.prog 51 #[.int .i64 x, .int .i64 n] w fun e w' => e = .returned (tupW (growW x n)) ∧ Below w.heap.size w w' := by
  refine (grow_same x n w).mono ?_
  rintro e w1 ⟨rfl, rfl⟩
  exact ⟨rfl, Below.refl _ _⟩
theorem pTake_any (x n : Int) (w : World) :
    Calls Try.prog 63 #[.int .i64 x, .int .i64 n] w fun e w' => e = .returned (tupW (takeW x n)) ∧ Below w.heap.size w w' := by
  refine (take_same x n w).mono ?_
  rintro e w1 ⟨rfl, rfl⟩
  exact ⟨rfl, Below.refl _ _⟩
theorem pShift_any (x n : Int) (w : World) :
    Calls Try.prog 52 #[.int .i64 x, .int .i64 n] w fun e w' => e = .returned (tupW (shiftW x n)) ∧ Below w.heap.size w w' := by
  refine (shift_same x n w).mono ?_
  rintro e w1 ⟨rfl, rfl⟩
  exact ⟨rfl, Below.refl _ _⟩
theorem pRoom_any (n : Int) (v : Value) (l : List Int) (w : World) (h : Sl .i64 w v l) (_ : l.length ≤ 1000) :
    Calls Try.prog 46 #[.int .i64 n, v] w fun e w' => e = .returned (.int .i64 (roomW n l)) ∧ Below w.heap.size w w' := by
  refine (room_same n v l w h).mono ?_
  rintro e w1 ⟨rfl, rfl⟩
  exact ⟨rfl, Below.refl _ _⟩
end Go.Proofs.Ytnoegbdmjinfjaa
