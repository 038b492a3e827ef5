
/-
  Fields (two texts) one behind the other: their sizes; which ones go. Slices of them; rows of them that a call itself makes. No function of the program is named here.
-/
import Derived.Test.YtabonhiolcjnnaaProg
import Derived.Test.YtabonhiolcjnnaaKit
import Derived.Test.YtabonhiolcjnnaaOwn
import Derived.Lib.SliceRun
namespace Go.Proofs.Ytabonhiolcjnnaa
open Go.RowKit

/-- a field: name, value -/
abbrev Fd := ByteArray × ByteArray
def szF (f : Fd) : Nat := f.1.size + f.2.size + 32
def sumF : List Fd → Nat
  | [] => 0
  | f :: r => szF f + sumF r
theorem sumF_append (a b : List Fd) : sumF (a ++ b) = sumF a + sumF b := by
  induction a with
  | nil => simp [sumF]
  | cons f r ih => simp only [List.cons_append, sumF, ih]; omega
theorem sumF_one (f : Fd) : sumF [f] = szF f := rfl
theorem sumF_reverse (l : List Fd) : sumF l.reverse = sumF l := by
  induction l with
  | nil => rfl
  | cons f r ih => rw [List.reverse_cons, sumF_append, ih]; simp only [sumF]; omega
theorem sumF_len (l : List Fd) : 32 * l.length ≤ sumF l := by
  induction l with
  | nil => simp [sumF]
  | cons f r ih => simp only [sumF, szF, List.length_cons]; omega
theorem sumF_take_drop (l : List Fd) (n : Nat) : sumF (l.take n) + sumF (l.drop n) = sumF l := by rw [← sumF_append, List.take_append_drop]
theorem sumF_take_succ {l : List Fd} {n : Nat} {f : Fd} (h : l[n]? = some f) : sumF (l.take (n + 1)) = sumF (l.take n) + szF f := by
  rw [List.take_add_one, h, sumF_append]; rfl
theorem sumF_drop {l : List Fd} {n : Nat} {f : Fd} (h : l[n]? = some f) : sumF (l.drop n) = szF f + sumF (l.drop (n + 1)) := by
  obtain ⟨hl, rfl⟩ := List.getElem?_eq_some_iff.1 h
  rw [List.drop_eq_getElem_cons hl]; rfl
/-- the first ones go, while all have more than so much -/
def shrinkF (most : Int) : List Fd → List Fd
  | [] => []
  | f :: r => if (sumF (f :: r) : Int) ≤ most then f :: r else shrinkF most r
/-- as many of the first ones as there is room for -/
def fitF (most : Int) : List Fd → List Fd
  | [] => []
  | f :: r => if most < szF f then [] else f :: fitF (most - szF f) r
theorem shrinkF_neg {most : Int} (h : most < 0) (l : List Fd) : shrinkF most l = [] := by
  induction l with
  | nil => rfl
  | cons f r ih => rw [shrinkF, if_neg (by omega), ih]
theorem shrinkF_stay {most : Int} {l : List Fd} (h : (sumF l : Int) ≤ most) : shrinkF most l = l := by
  cases l with
  | nil => rfl
  | cons f r => rw [shrinkF, if_pos h]
theorem shrinkF_go {most : Int} {l : List Fd} {n : Nat} {f : Fd} (hf : l[n]? = some f) (h : ¬ (sumF (l.drop n) : Int) ≤ most) : shrinkF most (l.drop n) = shrinkF most (l.drop (n + 1)) := by
  obtain ⟨hl, rfl⟩ := List.getElem?_eq_some_iff.1 hf
  rw [List.drop_eq_getElem_cons hl] at h ⊢
  rw [shrinkF, if_neg h]
theorem shrinkF_sum (most : Int) (l : List Fd) : sumF (shrinkF most l) ≤ sumF l ∧ (shrinkF most l).length ≤ l.length := by
  induction l with
  | nil => exact ⟨Nat.le_refl _, Nat.le_refl _⟩
  | cons f r ih =>
    rw [shrinkF]
    split
    · exact ⟨Nat.le_refl _, Nat.le_refl _⟩
    · simp only [sumF, List.length_cons]; omega
theorem fitF_snoc (f : Fd) : ∀ (l : List Fd) (most : Int), fitF most (l ++ [f]) = if (sumF l + szF f : Int) ≤ most then l ++ [f] else fitF most l
  | [], most => by
    have e : sumF [] = 0 := rfl
    simp only [List.nil_append, fitF]
    by_cases h : most < szF f
    · rw [if_pos h, if_neg (by omega)]
    · rw [if_neg h, if_pos (by omega)]
  | x :: r, most => by
    have e : sumF (x :: r) = szF x + sumF r := rfl
    simp only [List.cons_append, fitF]
    rw [fitF_snoc f r]
    by_cases h : most < szF x
    · rw [if_pos h, if_neg (by omega), if_pos h]
    · rw [if_neg h, if_neg h]
      by_cases h2 : (sumF r + szF f : Int) ≤ most - szF x
      · rw [if_pos h2, if_pos (by omega)]
      · rw [if_neg h2, if_neg (by omega)]
/-- the oldest ones go: as many of the newest ones as there is room for stay -/
theorem shrink_fit (most : Int) (l : List Fd) : (shrinkF most l).reverse = fitF most l.reverse := by
  induction l with
  | nil => rfl
  | cons f r ih =>
    rw [shrinkF, List.reverse_cons, fitF_snoc, sumF_reverse]
    by_cases h : (sumF (f :: r) : Int) ≤ most
    · rw [if_pos h, if_pos (by simp only [sumF] at h; omega), List.reverse_cons]
    · rw [if_neg h, if_neg (by simp only [sumF] at h; omega), ih]
/-- one comes: the oldest one stands first -/
def addF (most : Int) (l : List Fd) (f : Fd) : List Fd := if most < szF f then [] else shrinkF (most - szF f) l ++ [f]
theorem add_fit (most : Int) (l : List Fd) (f : Fd) : (addF most l f).reverse = fitF most (f :: l.reverse) := by
  rw [addF, fitF]
  split
  · rfl
  · rw [List.reverse_append, shrink_fit]; rfl
theorem fitF_sum (l : List Fd) : ∀ most : Int, 0 ≤ most → (sumF (fitF most l) : Int) ≤ most := by
  induction l with
  | nil => intro m h; simpa [fitF, sumF] using h
  | cons f r ih =>
    intro m h
    rw [fitF]
    split
    · simpa [sumF] using h
    · have := ih (m - szF f) (by omega)
      simp only [sumF]; omega
theorem shrinkF_le {most : Int} (h : 0 ≤ most) (l : List Fd) : (sumF (shrinkF most l) : Int) ≤ most := by
  rw [← sumF_reverse, shrink_fit]; exact fitF_sum _ _ h
theorem addF_le {most : Int} (h : 0 ≤ most) (l : List Fd) (f : Fd) : (sumF (addF most l f) : Int) ≤ most := by
  rw [← sumF_reverse, add_fit]; exact fitF_sum _ _ h
/-- how far the going through has come -/
theorem fitF_split {most : Int} : ∀ (l : List Fd) (n : Nat), fitF most (l.take n) = l.take n → fitF most l = l.take n ++ fitF (most - sumF (l.take n)) (l.drop n) := by
  intro l n h
  generalize hm : most = m at *
  clear hm
  induction n generalizing l m with
  | zero => simp [sumF]
  | succ n ih =>
    cases l with
    | nil => simp [fitF]
    | cons f r =>
      simp only [List.take_succ_cons, List.drop_succ_cons, sumF, List.cons_append]
      simp only [List.take_succ_cons, fitF] at h
      by_cases hf : m < szF f
      · rw [if_pos hf] at h; cases h
      · rw [if_neg hf] at h
        simp only [List.cons.injEq, true_and] at h
        rw [fitF, if_neg hf, ih r _ h]
        congr 3
        omega
theorem fitF_all {most : Int} : ∀ (l : List Fd), (sumF l : Int) ≤ most → fitF most l = l := by
  intro l
  induction l generalizing most with
  | nil => intro _; rfl
  | cons f r ih =>
    intro h
    simp only [sumF] at h
    rw [fitF, if_neg (by omega), ih (by omega)]

/-- the cells of fields, one behind the other -/
def fcs (fs : List Fd) : List Value := fs.flatMap fun f => [.string f.1, .string f.2]
theorem fcs_nil : fcs [] = [] := rfl
theorem fcs_append (a b : List Fd) : fcs (a ++ b) = fcs a ++ fcs b := by simp [fcs]
theorem fcs_one (f : Fd) : fcs [f] = [.string f.1, .string f.2] := by simp [fcs]
theorem fcs_length : ∀ l : List Fd, (fcs l).length = l.length * 2
  | [] => rfl
  | f :: r => by
    have := fcs_length r
    rw [show fcs (f :: r) = [.string f.1, .string f.2] ++ fcs r from by simp [fcs], List.length_append, this, List.length_cons]
    simp only [List.length_cons, List.length_nil]
    omega
theorem fcs_take : ∀ (l : List Fd) (n : Nat), fcs (l.take n) = (fcs l).take (n * 2)
  | [], n => by simp [fcs]
  | f :: r, 0 => by simp [fcs]
  | f :: r, n + 1 => by
    have := fcs_take r n
    rw [List.take_succ_cons, show fcs (f :: r.take n) = [.string f.1, .string f.2] ++ fcs (r.take n) from by simp [fcs], this, show fcs (f :: r) = [.string f.1, .string f.2] ++ fcs r from by simp [fcs], show (n + 1) * 2 = n * 2 + 1 + 1 by omega]
    rfl
theorem fcs_drop : ∀ (l : List Fd) (n : Nat), fcs (l.drop n) = (fcs l).drop (n * 2)
  | [], n => by simp [fcs]
  | f :: r, 0 => by simp [fcs]
  | f :: r, n + 1 => by
    have := fcs_drop r n
    rw [List.drop_succ_cons, this, show fcs (f :: r) = [.string f.1, .string f.2] ++ fcs r from by simp [fcs], show (n + 1) * 2 = n * 2 + 1 + 1 by omega]
    rfl
theorem fcs_at : ∀ (l : List Fd) (i : Nat) (f : Fd), l[i]? = some f → (fcs l)[i * 2]? = some (.string f.1) ∧ (fcs l)[i * 2 + 1]? = some (.string f.2)
  | [], i, f, h => by simp at h
  | x :: r, 0, f, h => by
    simp only [List.getElem?_cons_zero, Option.some.injEq] at h
    subst h
    exact ⟨rfl, rfl⟩
  | x :: r, i + 1, f, h => by
    have := fcs_at r i f (by simpa using h)
    rw [show fcs (x :: r) = .string x.1 :: .string x.2 :: fcs r from by simp [fcs], show (i + 1) * 2 = i * 2 + 1 + 1 by omega]
    simpa using this
theorem fcs_oneCell (l : List Fd) : ∀ u ∈ fcs l, u.oneCell' = true := by
  intro u hu
  simp only [fcs, List.mem_flatMap, List.mem_cons, List.not_mem_nil, or_false] at hu
  obtain ⟨f, _, rfl | rfl⟩ := hu <;> rfl

/-- the value 'v' is a slice that reads as these fields -/
def SlD (w : World) (v : Value) (fs : List Fd) : Prop :=
  ∃ a cap, v = .slice a fs.length cap ∧ fs.length ≤ cap ∧ cap ≤ maxLen ∧
    ((fs.length = 0 ∧ (a = none → cap = 0)) ∨ ∃ b off, a = some ⟨b, off, none⟩ ∧ b < w.heap.size ∧ ∀ (i : Nat) (f : Fd), fs[i]? = some f → w.cell? ⟨b, off + i * 2, none⟩ = some (.string f.1) ∧ w.cell? ⟨b, off + i * 2 + 1, none⟩ = some (.string f.2))
theorem SlD.below {w w' : World} {v : Value} {fs : List Fd} (h : SlD w v fs) (hb : Below w.heap.size w w') : SlD w' v fs := by
  obtain ⟨a, cap, rfl, h2, h3, h4⟩ := h
  refine ⟨a, cap, rfl, h2, h3, h4.imp_right ?_⟩
  rintro ⟨b, off, rfl, hl, hc⟩
  exact ⟨b, off, rfl, Nat.lt_of_lt_of_le hl hb.size, fun i f hi => ⟨(hb.cell (p := ⟨b, off + i * 2, none⟩) hl).trans (hc i f hi).1, (hb.cell (p := ⟨b, off + i * 2 + 1, none⟩) hl).trans (hc i f hi).2⟩⟩
theorem SlD.drewN {w : World} {v : Value} {fs : List Fd} (h : SlD w v fs) (n : Nat) : SlD (w.drewN n) v fs := h.below (below_drewN (Below.refl _ _) n)
theorem SlD.len {w : World} {v : Value} {fs : List Fd} (h : SlD w v fs) : fs.length ≤ maxLen := by
  obtain ⟨a, cap, _, h2, h3, _⟩ := h; exact Nat.le_trans h2 h3
theorem SlD.shape {w : World} {v : Value} {fs : List Fd} (h : SlD w v fs) : ∃ a cap, v = .slice a fs.length cap ∧ fs.length ≤ cap ∧ cap ≤ maxLen := by
  obtain ⟨a, cap, e, h1, h2, _⟩ := h; exact ⟨a, cap, e, h1, h2⟩
/-- one of them -/
theorem SlD.at_ {w : World} {a : Option Addr} {n cap : Nat} {fs : List Fd} (h : SlD w (.slice a n cap) fs) {i : Nat} (hi : i < fs.length) :
    ∃ b off, a = some ⟨b, off, none⟩ ∧ b < w.heap.size ∧ ∀ f, fs[i]? = some f → w.cell? ⟨b, off + i * 2, none⟩ = some (.string f.1) ∧ w.cell? ⟨b, off + i * 2 + 1, none⟩ = some (.string f.2) := by
  obtain ⟨a', cap', e, _, _, h3⟩ := h
  simp only [Value.slice.injEq] at e
  obtain ⟨rfl, rfl, rfl⟩ := e
  rcases h3 with ⟨h3, _⟩ | ⟨b, off, rfl, hb, hc⟩
  · omega
  · exact ⟨b, off, rfl, hb, hc i⟩
/-- 'v[:hi]' -/
theorem SlD.upto {w : World} {a : Option Addr} {n cap : Nat} {fs : List Fd} (h : SlD w (.slice a n cap) fs) {hi : Nat} (h1 : hi ≤ fs.length) (h0 : 0 < hi) : SlD w (.slice a hi cap) (fs.take hi) := by
  obtain ⟨a', cap', e, h2, h3, h4⟩ := h
  simp only [Value.slice.injEq] at e
  obtain ⟨rfl, rfl, rfl⟩ := e
  have el : (fs.take hi).length = hi := by simp; omega
  refine ⟨a, cap, by rw [el], by omega, h3, ?_⟩
  rcases h4 with ⟨h4, _⟩ | ⟨b, off, rfl, hb, hc⟩
  · omega
  · refine .inr ⟨b, off, rfl, hb, fun i f hf => hc i f ?_⟩
    rw [List.getElem?_take] at hf
    split at hf
    · exact hf
    · cases hf

/-- a row of fields that a call itself made -/
def RowF (w : World) (base : Nat) (v : Value) (fs : List Fd) : Prop := w.ownsRow base 29 2 v fs.length (fcs fs)
theorem RowF.nil (w : World) (base : Nat) : RowF w base (.slice none 0 0) [] := World.ownsRow_nil _ _ _ _
theorem RowF.lt {w : World} {base : Nat} {v : Value} {fs : List Fd} (h : RowF w base v fs) : ∀ k, v.ownBlock = some k → base ≤ k ∧ k < w.heap.size := World.ownsRow.lt h
theorem RowF.mono {w : World} {base base' : Nat} {v : Value} {fs : List Fd} (h : RowF w base v fs) (hb : base' ≤ base) : RowF w base' v fs := owned_mono h hb
theorem RowF.shape {w : World} {base : Nat} {v : Value} {fs : List Fd} (h : RowF w base v fs) : ∃ a cap, v = .slice a fs.length cap := by
  obtain ⟨a, cap, e, _⟩ := owned_shape h; exact ⟨a, cap, e⟩
theorem RowF.of_block {w w' : World} {base : Nat} {v : Value} {fs : List Fd} (h : RowF w base v fs) (hb : ∀ g, v.ownBlock = some g → w'.heap[g]? = w.heap[g]?) : RowF w' base v fs := by
  obtain ⟨h1, h2⟩ := h
  refine ⟨h1, h2.imp_right ?_⟩
  rintro ⟨g, cap, cur, rfl, hg, hh, h3⟩
  exact ⟨g, cap, cur, rfl, hg, (hb g rfl).trans hh, h3⟩
theorem RowF.below {w w' : World} {base : Nat} {v : Value} {fs : List Fd} (h : RowF w base v fs) (hb : Below w.heap.size w w') : RowF w' base v fs := h.of_block fun g hg => hb.block g (h.lt g hg).2
theorem RowF.len {w : World} {base : Nat} {v : Value} {fs : List Fd} (h : RowF w base v fs) : fs.length ≤ maxLen := by
  obtain ⟨_, ⟨_, h⟩ | ⟨_, _, _, _, _, _, h1, h2, _⟩⟩ := h
  · rw [h]; exact Nat.zero_le _
  · exact Nat.le_trans h1 h2
theorem RowF.toSl {w : World} {base : Nat} {v : Value} {fs : List Fd} (h : RowF w base v fs) : SlD w v fs := by
  have h' := h
  obtain ⟨h1, h2⟩ := h
  rcases h2 with ⟨rfl, h3⟩ | ⟨g, cap, cur, rfl, hg, hblk, hnc, hcm, hcs, htake⟩
  · refine ⟨none, 0, by rw [h3], by omega, by simp, .inl ⟨h3, fun _ => rfl⟩⟩
  · refine ⟨some ⟨g, 0, none⟩, cap, rfl, hnc, hcm, .inr ⟨g, 0, rfl, (h'.lt g rfl).2, fun i f hi => ?_⟩⟩
    have hil : i < fs.length := (List.getElem?_eq_some_iff.1 hi).1
    have at_ : ∀ j, j < 2 → w.cell? ⟨g, 0 + i * 2 + j, none⟩ = (fcs fs)[i * 2 + j]? := fun j hj => by
      rw [Nat.zero_add, World.ownsRow.cellAt h' (i * 2 + j) (by omega)]
    exact ⟨(at_ 0 (by omega)).trans (fcs_at fs i f hi).1, (at_ 1 (by omega)).trans (fcs_at fs i f hi).2⟩
/-- the block that it lies in holds fields -/
theorem RowF.block {w : World} {base : Nat} {v : Value} {fs : List Fd} (h : RowF w base v fs) : ∀ g, v.ownBlock = some g → ∃ cs fr, w.heap[g]? = some (.cells cs 29 fr) := fun g hg => by
  obtain ⟨_, ⟨rfl, _⟩ | ⟨g', cap, cur, rfl, _, hh, _⟩⟩ := h
  · cases hg
  · cases hg; exact ⟨_, _, hh⟩
/-- a block of another kind is not its -/
theorem RowF.apart {w : World} {base T : Nat} {v : Value} {fs : List Fd} {o : Obj} (h : RowF w base v fs) (hT : w.heap[T]? = some o) (ho : ∀ cs fr, o ≠ .cells cs 29 fr) : v.ownBlock ≠ some T := fun e => by
  obtain ⟨cs, fr, h2⟩ := h.block T e
  rw [hT] at h2
  exact ho cs fr (Option.some.inj h2)
end Go.Proofs.Ytabonhiolcjnnaa
