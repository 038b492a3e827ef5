
/-
  Package item: the kinds' table, as a package-level variable holds it; an item in a block of its own; places' pointers.
-/
import Derived.Test.YtimggejonppegaaDoorProg
import Derived.Test.YtimggejonppegaaDoorOwn
import Derived.Test.YtimggejonppegaaDoorRegion
import Derived.Deep.WholeRow
namespace Go.Proofs.YtimggejonppegaaDoor
open Go.RowKit

/-- what the variable's cells hold: bits, above, least, texts, five times -/
def shCells : Array Value := #[.int .i64 7, .int .i64 128, .int .i64 1, .bool false, .int .i64 6, .int .i64 64, .int .i64 0, .bool true, .int .i64 4, .int .i64 0, .int .i64 0, .bool true,
  .int .i64 4, .int .i64 16, .int .i64 0, .bool true, .int .i64 5, .int .i64 32, .int .i64 0, .bool false]
def ShT (w : World) : Prop := ∃ t fr, w.heap[0]? = some (.cells shCells t fr)
theorem ShT.lt {w : World} (h : ShT w) : 0 < w.heap.size := by
  obtain ⟨t, fr, h⟩ := h
  exact (Array.getElem?_eq_some_iff.1 h).1
theorem ShT.low {w w' : World} {B : Nat} (h : ShT w) (hb : Below B w w') (h0 : 0 < B) : ShT w' := by
  obtain ⟨t, fr, h⟩ := h
  exact ⟨t, fr, (hb.block _ h0).trans h⟩
theorem ShT.below {w w' : World} (h : ShT w) (hb : Below w.heap.size w w') : ShT w' := h.low hb h.lt
theorem ShT.cell {w : World} (h : ShT w) (j : Nat) (v : Value) (hj : shCells[j]? = some v) : w.cell? ⟨0, j, none⟩ = some v := by
  obtain ⟨t, fr, h⟩ := h
  simp [World.cell?, h, hj]

/-- a kind's bits, what is above, the least number, whether there are texts -/
def bitsI (k : Int) : Int := if k = 0 then 7 else if k = 1 then 6 else if k = 4 then 5 else 4
def aboveI (k : Int) : Int := if k = 0 then 128 else if k = 1 then 64 else if k = 3 then 16 else if k = 4 then 32 else 0
def leastI (k : Int) : Int := if k = 0 then 1 else 0
def textsI (k : Int) : Bool := decide (1 ≤ k ∧ k ≤ 3)
theorem kind_cases {k : Int} (h0 : 0 ≤ k) (h4 : k < 5) : k = 0 ∨ k = 1 ∨ k = 2 ∨ k = 3 ∨ k = 4 := by omega

/-- an item, by value; in the block g -/
def itV (k n : Int) (a b : ByteArray) : Value := .agg #[.int .i64 k, .int .i64 n, .string a, .string b]
def ItAt (W : World) (g : Nat) (t : TypeId) (k n : Int) (a b : ByteArray) : Prop := W.heap[g]? = some (.cells #[.int .i64 k, .int .i64 n, .string a, .string b] t (0, 0))
theorem ItAt.lt {W : World} {g : Nat} {t : TypeId} {k n : Int} {a b : ByteArray} (h : ItAt W g t k n a b) : g < W.heap.size := (Array.getElem?_eq_some_iff.1 h).1
theorem ItAt.low {W W' : World} {B g : Nat} {t : TypeId} {k n : Int} {a b : ByteArray} (h : ItAt W g t k n a b) (hb : Below B W W') (hg : g < B) : ItAt W' g t k n a b := (hb.block g hg).trans h
theorem ItAt.grown {W W' : World} {g : Nat} {t : TypeId} {k n : Int} {a b : ByteArray} (h : ItAt W g t k n a b) (hb : Below W.heap.size W W') : ItAt W' g t k n a b := h.low hb h.lt
theorem ItAt.c0 {W : World} {g : Nat} {t : TypeId} {k n : Int} {a b : ByteArray} (h : ItAt W g t k n a b) : W.cell? ⟨g, 0, none⟩ = some (.int .i64 k) := by unfold ItAt at h; simp [World.cell?, h]
theorem ItAt.c1 {W : World} {g : Nat} {t : TypeId} {k n : Int} {a b : ByteArray} (h : ItAt W g t k n a b) : W.cell? ⟨g, 1, none⟩ = some (.int .i64 n) := by unfold ItAt at h; simp [World.cell?, h]
theorem ItAt.c2 {W : World} {g : Nat} {t : TypeId} {k n : Int} {a b : ByteArray} (h : ItAt W g t k n a b) : W.cell? ⟨g, 2, none⟩ = some (.string a) := by unfold ItAt at h; simp [World.cell?, h]
theorem ItAt.c3 {W : World} {g : Nat} {t : TypeId} {k n : Int} {a b : ByteArray} (h : ItAt W g t k n a b) : W.cell? ⟨g, 3, none⟩ = some (.string b) := by unfold ItAt at h; simp [World.cell?, h]

/-- what places answers: pointers into the block g -/
def Pts (w : World) (v : Value) (g : Nat) (offs : List Nat) : Prop :=
  ∃ a cap, v = .slice a offs.length cap ∧ (offs = [] ∨ ∃ b, a = some ⟨b, 0, none⟩ ∧ b < w.heap.size ∧ b ≠ g ∧ ∀ i o, offs[i]? = some o → w.cell? ⟨b, i, none⟩ = some (.pointer (some ⟨g, o, none⟩)))
def offsI (k n : Int) : List Nat := if textsI k then if n = 0 then [2, 3] else [3] else []

theorem isKind_any (k : Int) (w : World) :
    Calls Tryd.prog 27 #[.int .i64 k] w fun e w' => e = .returned (.bool (decide (0 ≤ k ∧ k < 5))) ∧ w = w' := by
  by_cases h0 : 0 ≤ k
  · have d1 : decide (0 ≤ k) = true := decide_eq_true h0
    have HD := Lib.hid (show decide (0 ≤ k ∧ k < 5) = decide (k < 5) by simp [h0])
    clear h0
    go_enter Tryd.func27, Tryd.ntmps27
    go_wp2
    go_ret
    exact ⟨by rw [HD.out]; rfl, rfl⟩
  · have d1 : decide (0 ≤ k) = false := decide_eq_false h0
    have HD := Lib.hid (show decide (0 ≤ k ∧ k < 5) = false by simp [h0])
    clear h0
    go_enter Tryd.func27, Tryd.ntmps27
    go_wp2
    go_ret
    exact ⟨by rw [HD.out]; rfl, rfl⟩
theorem iText_any (s : ByteArray) (w : World) :
    Calls Tryd.prog 28 #[.string s] w fun e w' => e = .returned (.bool (decide (s.size ≤ 65536))) ∧ w = w' := by
  go_enter Tryd.func28, Tryd.ntmps28
  go_wp2
  go_ret
  exact ⟨by congr 2; simp; omega, rfl⟩
theorem ShT.texts {w : World} (h : ShT w) : w.cell? ⟨0, 3, none⟩ = some (.bool false) ∧ w.cell? ⟨0, 7, none⟩ = some (.bool true) ∧ w.cell? ⟨0, 11, none⟩ = some (.bool true) ∧ w.cell? ⟨0, 15, none⟩ = some (.bool true) ∧ w.cell? ⟨0, 19, none⟩ = some (.bool false) :=
  ⟨h.cell 3 _ rfl, h.cell 7 _ rfl, h.cell 11 _ rfl, h.cell 15 _ rfl, h.cell 19 _ rfl⟩
set_option maxRecDepth 20000 in
theorem places_any (g : Nat) (t : TypeId) (k n : Int) (a b : ByteArray) (w : World) (hI : ItAt w g t k n a b) (hT : ShT w) (h0 : 0 ≤ k) (h4 : k < 5) :
    Calls Tryd.prog 15 #[.pointer (some ⟨g, 0, none⟩)] w fun e w' => ∃ v, e = .returned v ∧ Pts w' v g (offsI k n) ∧ Below w.heap.size w w' := by
  have c0 := hI.c0
  have c1 := hI.c1
  have hgl := hI.lt
  obtain ⟨t0, t1, t2, t3, t4⟩ := hT.texts
  clear hI hT
  rcases kind_cases h0 h4 with rfl | rfl | rfl | rfl | rfl
  case' inr.inr.inr.inr => skip
  case' inl => skip
  all_goals clear h0 h4
  case inl =>
    go_enter Tryd.func15, Tryd.ntmps15
    go_wp2_with fail
    go_ret
    exact ⟨_, rfl, ⟨none, 0, rfl, .inl rfl⟩, Below.refl _ _⟩
  case inr.inr.inr.inr =>
    go_enter Tryd.func15, Tryd.ntmps15
    go_wp2_with fail
    go_ret
    exact ⟨_, rfl, ⟨none, 0, rfl, .inl rfl⟩, Below.refl _ _⟩
  all_goals
    by_cases hn : n = 0
    · subst hn
      go_enter Tryd.func15, Tryd.ntmps15
      go_wp2_with fail
      refine wp_region_table 6 [22, 23, 24, 25, 26, 27] [[], [(0, 22)], [(1, 23)], [], [(3, 25)], [(4, 26)]]
        (fun i v w' => match i with
          | 0 => v = .pointer (some ⟨g, 0, none⟩)
          | 1 => v = .pointer (some ⟨g, 0, none⟩)
          | 2 => v = .pointer (some ⟨g, 2, none⟩)
          | 3 => v = .pointer (some ⟨g, 0, none⟩)
          | 4 => v = .pointer (some ⟨g, 0, none⟩)
          | 5 => v = .pointer (some ⟨g, 3, none⟩)
          | _ => True) (by kernel_rfl) (by kernel_rfl) ?tStab ?tOps ?tRest
      case tStab =>
        intro i v w3 w4 h hb
        match i, h with
        | 0, h | 1, h | 2, h | 3, h | 4, h | 5, h => exact h
        | i + 6, _ => trivial
      case tOps =>
        simp only [List.take_succ_cons, List.take_zero, opsOk]
        refine ⟨?_, ?_, ?_, ?_, ?_, ?_, trivial⟩
        · intro ρ w3 hc hf ho hB hj
          have x0 : ρ (.tmp 0) = .pointer (some ⟨g, 0, none⟩) := ho 0 (by decide)
          simp [gives, go_sem, x0, Below.refl]
        · intro ρ w3 hc hf ho hB hj
          have x0 : ρ (.tmp 22) = .pointer (some ⟨g, 0, none⟩) := hj (0, 22) (by simp)
          simp [gives, go_sem, x0, Below.refl]
        · intro ρ w3 hc hf ho hB hj
          have x0 : ρ (.tmp 23) = .pointer (some ⟨g, 0, none⟩) := hj (1, 23) (by simp)
          simp [gives, go_sem, x0, Below.refl]
        · intro ρ w3 hc hf ho hB hj
          have x0 : ρ (.tmp 0) = .pointer (some ⟨g, 0, none⟩) := ho 0 (by decide)
          simp [gives, go_sem, x0, Below.refl]
        · intro ρ w3 hc hf ho hB hj
          have x0 : ρ (.tmp 25) = .pointer (some ⟨g, 0, none⟩) := hj (3, 25) (by simp)
          simp [gives, go_sem, x0, Below.refl]
        · intro ρ w3 hc hf ho hB hj
          have x0 : ρ (.tmp 26) = .pointer (some ⟨g, 0, none⟩) := hj (4, 26) (by simp)
          simp [gives, go_sem, x0, Below.refl]
      case tRest =>
        intro X w3 hBw hX
        have x0 : X 0 = .pointer (some ⟨g, 0, none⟩) := hX 0 (by decide)
        have x1 : X 1 = .pointer (some ⟨g, 0, none⟩) := hX 1 (by decide)
        have x2 : X 2 = .pointer (some ⟨g, 2, none⟩) := hX 2 (by decide)
        have x3 : X 3 = .pointer (some ⟨g, 0, none⟩) := hX 3 (by decide)
        have x4 : X 4 = .pointer (some ⟨g, 0, none⟩) := hX 4 (by decide)
        have x5 : X 5 = .pointer (some ⟨g, 3, none⟩) := hX 5 (by decide)
        simp only [putAll, List.getD_cons_zero, List.getD_cons_succ, Act.put, List.setIfInBounds_toArray, List.set_cons_zero, List.set_cons_succ, List.drop_succ_cons, List.drop_zero]
        rw [x0, x1, x2, x3, x4, x5]
        clear hX x0 x1 x2 x3 x4 x5
        go_wp2_with fail
        go_ret
        refine ⟨_, rfl, ?_, hBw.alloc hBw.size _⟩
        refine ⟨some ⟨w3.heap.size, 0, none⟩, 2, rfl, .inr ⟨w3.heap.size, rfl, by simp, by have := hBw.size; omega, ?_⟩⟩
        intro i o h
        match i, h with
        | 0, h => obtain rfl := Option.some.inj h; rw [World.cell?_alloc_at _ _ _ _ rfl]; rfl
        | 1, h => obtain rfl := Option.some.inj h; rw [World.cell?_alloc_at _ _ _ _ rfl]; rfl
        | i + 2, h => cases h
    · have e1 : (n == 0) = false := by simp [hn]
      have HO := Lib.hid (show offsI 1 n = [3] ∧ offsI 2 n = [3] ∧ offsI 3 n = [3] by simp [offsI, textsI, hn])
      clear hn
      go_enter Tryd.func15, Tryd.ntmps15
      go_wp2_with fail
      go_ret
      refine ⟨_, rfl, ?_, (Below.refl _ _).alloc (Nat.le_refl _) _⟩
      simp only [HO.out.1, HO.out.2.1, HO.out.2.2]
      refine ⟨_, 1, rfl, .inr ⟨w.heap.size, rfl, by simp, by omega, ?_⟩⟩
      intro i o h
      match i, h with
      | 0, h => obtain rfl := Option.some.inj h; rw [World.cell?_alloc_at _ _ _ _ rfl]; rfl
end Go.Proofs.YtimggejonppegaaDoor
