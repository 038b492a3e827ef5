
/-
  Package item: a row of the kinds' table, by an index that isn't known; which items may be.
-/
import Derived.Test.YtimggejonppegaaDoorItTab
import Derived.Deep.QuietTactic
import Derived.BigQuiet
import Derived.WalkMore
import Derived.Deep.LoopGhost
namespace Go.Proofs.YtimggejonppegaaDoor
open Go.RowKit

theorem shArr : Tryd.prog.underlying 44 = some (.array (Tryd.prog.arrayLen 44) (Tryd.prog.elem 44)) := by kernel_rfl
theorem shLen : Tryd.prog.arrayLen 44 = 5 := by kernel_rfl
theorem shElem (w : World) : (sizeOf (Tryd.prog.elem 44)).run Tryd.prog w = .ok 4 w := by kernel_rfl
/-- the row of a kind: where it lies, what it holds -/
theorem sh_row {k : Int} (h0 : 0 ≤ k) (h4 : k < 5) : ∃ K : Nat,
    (∀ (q : IntKind) (W : World), (Instr.indexAt 44 (.pointer (some ⟨0, 0, none⟩)) (.int q k)).run Tryd.prog W = .ok (.pointer (some ⟨0, K, none⟩)) W) ∧
    ∀ W : World, ShT W → W.cell? ⟨0, K, none⟩ = some (.int .i64 (bitsI k)) ∧ W.cell? ⟨0, K + 1, none⟩ = some (.int .i64 (aboveI k)) ∧
      W.cell? ⟨0, K + 2, none⟩ = some (.int .i64 (leastI k)) ∧ W.cell? ⟨0, K + 3, none⟩ = some (.bool (textsI k)) := by
  refine ⟨k.toNat * 4, fun q W => ?_, fun W hW => ?_⟩
  · rw [run_indexAt_array W 44 ⟨0, 0, none⟩ q k shArr, shLen, if_pos ⟨by omega, by omega⟩, shElem]
    simp [Result.andThen, Addr.add, eq_comm]
  · rcases kind_cases h0 h4 with rfl | rfl | rfl | rfl | rfl
    · exact ⟨hW.cell 0 _ rfl, hW.cell 1 _ rfl, hW.cell 2 _ rfl, hW.cell 3 _ rfl⟩
    · exact ⟨hW.cell 4 _ rfl, hW.cell 5 _ rfl, hW.cell 6 _ rfl, hW.cell 7 _ rfl⟩
    · exact ⟨hW.cell 8 _ rfl, hW.cell 9 _ rfl, hW.cell 10 _ rfl, hW.cell 11 _ rfl⟩
    · exact ⟨hW.cell 12 _ rfl, hW.cell 13 _ rfl, hW.cell 14 _ rfl, hW.cell 15 _ rfl⟩
    · exact ⟨hW.cell 16 _ rfl, hW.cell 17 _ rfl, hW.cell 18 _ rfl, hW.cell 19 _ rfl⟩

/-- an item may be -/
def rightI (k n : Int) (a b : ByteArray) : Prop := (0 ≤ k ∧ k < 5) ∧ leastI k ≤ n ∧ n ≤ 16777215 ∧ (textsI k = true → a.size ≤ 65536 ∧ b.size ≤ 65536 ∧ (n ≠ 0 → a.size = 0)) ∧ (textsI k = false → a.size = 0 ∧ b.size = 0)
instance (k n : Int) (a b : ByteArray) : Decidable (rightI k n a b) := by unfold rightI; infer_instance

theorem right_noKind (k n : Int) (a b : ByteArray) (w : World) (h : ¬ (0 ≤ k ∧ k < 5)) :
    Calls Tryd.prog 12 #[itV k n a b] w fun e w' => e = .returned (.bool false) ∧ Below w.heap.size w w' := by
  unfold itV
  have D := Lib.hid (decide_eq_false h)
  have HK : Hid (∀ W : World, Calls Tryd.prog 27 #[.int .i64 k] W fun e w' => e = .returned (.bool false) ∧ w' = W) := fun W => (isKind_any k W).mono (fun e w' h => ⟨by rw [h.1, D.out], h.2.symm⟩)
  clear h D
  go_enter Tryd.func12, Tryd.ntmps12
  go_wp2_with fail
  go_quiet ((go_at_call 27; exact Calls.quiet_of_same (HK.out _)))
  go_wp2_with fail
  go_ret
  exact ⟨rfl, below_drewN ((Below.refl _ _).alloc (Nat.le_refl _) _) _⟩

theorem right_noNum (k n : Int) (a b : ByteArray) (w : World) (hT : ShT w) (h : 0 ≤ k ∧ k < 5) (hn : n < leastI k ∨ 16777215 < n) :
    Calls Tryd.prog 12 #[itV k n a b] w fun e w' => e = .returned (.bool false) ∧ Below w.heap.size w w' := by
  unfold itV
  have D := Lib.hid (decide_eq_true h)
  have HK : Hid (∀ W : World, Calls Tryd.prog 27 #[.int .i64 k] W fun e w' => e = .returned (.bool true) ∧ w' = W) := fun W => (isKind_any k W).mono (fun e w' h => ⟨by rw [h.1, D.out], h.2.symm⟩)
  obtain ⟨K, hix, hc⟩ := sh_row h.1 h.2
  obtain ⟨_, _, c2, _⟩ := hc _ (hT.below ((Below.refl _ w).alloc (Nat.le_refl _) (.cells #[.int .i64 k, .int .i64 n, .string a, .string b] 23)))
  obtain ⟨L, hL⟩ : ∃ L, leastI k = L := ⟨_, rfl⟩
  rw [hL] at c2 hn
  clear h D hc hL hT
  by_cases h1 : n < L
  · have d1 : decide (n < L) = true := decide_eq_true h1
    clear hn h1
    go_enter Tryd.func12, Tryd.ntmps12
    go_wp2_with fail
    go_quiet ((go_at_call 27; exact Calls.quiet_of_same (HK.out _)))
    go_wp2_with fail
    go_ret
    exact ⟨rfl, below_drewN ((Below.refl _ _).alloc (Nat.le_refl _) _) _⟩
  · have d1 : decide (n < L) = false := decide_eq_false h1
    have d2 : decide (16777215 < n) = true := decide_eq_true (by omega)
    clear hn h1
    go_enter Tryd.func12, Tryd.ntmps12
    go_wp2_with fail
    go_quiet ((go_at_call 27; exact Calls.quiet_of_same (HK.out _)))
    go_wp2_with fail
    go_ret
    exact ⟨rfl, below_drewN ((Below.refl _ _).alloc (Nat.le_refl _) _) _⟩

/-- an item in its block N, and pointers into it in another block B -/
def Gone (w : World) (N B : Nat) (offs : List Nat) (k n : Int) (W : World) (a b : ByteArray) : Prop :=
  ItAt W N 23 k n a b ∧ Below w.heap.size w W ∧ B ≠ N ∧ ∀ i o, offs[i]? = some o → W.cell? ⟨B, i, none⟩ = some (.pointer (some ⟨N, o, none⟩))
theorem Gone.put2 {w W : World} {N B : Nat} {offs : List Nat} {k n : Int} {a b : ByteArray} (h : Gone w N B offs k n W a b) (hN : w.heap.size ≤ N) (s : ByteArray) : Gone w N B offs k n (W.setCell ⟨N, 2, none⟩ (.string s)) s b := by
  obtain ⟨h1, h2, h3, h4⟩ := h
  refine ⟨?_, h2.setCell (p := ⟨N, 2, none⟩) hN _, h3, fun i o hi => ?_⟩
  · unfold ItAt
    rw [heap_setCell_same _ _ 2 _ _ _ h1]; rfl
  · rw [← h4 i o hi]
    exact World.cell?_of_block (Below.heap_setCell _ _ _ _ h3)
theorem Gone.put3 {w W : World} {N B : Nat} {offs : List Nat} {k n : Int} {a b : ByteArray} (h : Gone w N B offs k n W a b) (hN : w.heap.size ≤ N) (s : ByteArray) : Gone w N B offs k n (W.setCell ⟨N, 3, none⟩ (.string s)) a s := by
  obtain ⟨h1, h2, h3, h4⟩ := h
  refine ⟨?_, h2.setCell (p := ⟨N, 3, none⟩) hN _, h3, fun i o hi => ?_⟩
  · unfold ItAt
    rw [heap_setCell_same _ _ 3 _ _ _ h1]; rfl
  · rw [← h4 i o hi]
    exact World.cell?_of_block (Below.heap_setCell _ _ _ _ h3)
theorem size_nil {s : ByteArray} (h : s.size = 0) : s = ⟨#[]⟩ := by
  cases s with
  | mk d => simp [ByteArray.size] at h; rw [h]
theorem toList_nil {s : ByteArray} : s.toList = [] ↔ s = ⟨#[]⟩ := by
  rw [ByteArray.toList_eq]
  exact ⟨fun h => ByteArray.ext (Array.toList_inj.1 (by simpa using h)), fun h => by rw [h]⟩
theorem decide_toList {p : Prop} [Decidable p] {s : ByteArray} (h : p ↔ s = ⟨#[]⟩) : decide p = s.toList.isEmpty := by
  rw [Bool.eq_iff_iff, decide_eq_true_iff, List.isEmpty_iff, toList_nil, h]
theorem ItAt.free {W : World} {g : Nat} {t : TypeId} {k n : Int} {a b : ByteArray} (h : ItAt W g t k n a b) (j : Nat) : W.frozen? ⟨g, j, none⟩ = false := blk_free h

theorem right_yes (k n : Int) (a b : ByteArray) (w : World) (hT : ShT w) (h : 0 ≤ k ∧ k < 5) (hn : leastI k ≤ n ∧ n ≤ 16777215) :
    Calls Tryd.prog 12 #[itV k n a b] w fun e w' => e = .returned (.bool (decide (rightI k n a b))) ∧ Below w.heap.size w w' := by
  unfold itV
  have D := Lib.hid (decide_eq_true h)
  have HKD : Hid (∀ W : World, Calls Tryd.prog 27 #[.int .i64 k] W fun e w' => e = .returned (.bool true) ∧ w' = W) := fun W => (isKind_any k W).mono (fun e w' h => ⟨by rw [h.1, D.out], h.2.symm⟩)
  obtain ⟨K, hix, hc⟩ := sh_row h.1 h.2
  have hT1 := hT.below ((Below.refl _ w).alloc (Nat.le_refl _) (.cells #[.int .i64 k, .int .i64 n, .string a, .string b] 23))
  obtain ⟨_, _, c2, _⟩ := hc _ hT1
  obtain ⟨L, hL⟩ : ∃ L, leastI k = L := ⟨_, rfl⟩
  rw [hL] at c2
  have d1 : decide (n < L) = false := decide_eq_false (by omega)
  have d2 : decide (16777215 < n) = false := decide_eq_false (by omega)
  have HR : Hid (rightI k n a b ↔ (textsI k = true → a.size ≤ 65536 ∧ b.size ≤ 65536 ∧ (n ≠ 0 → a.size = 0)) ∧ (textsI k = false → a.size = 0 ∧ b.size = 0)) := ⟨fun x => x.2.2.2, fun x => ⟨h, hn.1, hn.2, x⟩⟩
  have HT := Lib.hid hT1
  have HK := Lib.hid h
  clear h D hc hL hT hn hT1
  go_enter Tryd.func12, Tryd.ntmps12
  go_wp2_with fail
  go_quiet ((go_at_call 27; exact Calls.quiet_of_same (HKD.out _)))
  go_wp2_with fail
  refine Calls.mono (places_any w.heap.size 23 k n a b _ ?hi ?ht HK.out.1 HK.out.2) ?_
  case hi => exact heap_alloc_new _ _
  case ht => exact HT.out
  rintro e w1 ⟨v, rfl, hp, hb1⟩
  have hI : ItAt w1 w.heap.size 23 k n a b := (hb1.block _ (by simp)).trans (heap_alloc_new _ _)
  have hB : Below w.heap.size w w1 := (below_drewN ((Below.refl _ _).alloc (Nat.le_refl _) _) _).trans (hb1.mono (by simp))
  have HI := Lib.hid (And.intro hI hB)
  clear hb1 hI hB c2 hix d1 d2
  by_cases ht : textsI k = true
  · by_cases h0 : n = 0
    · have e : offsI k n = [2, 3] := by simp [offsI, ht, h0]
      rw [e] at hp
      obtain ⟨ad, cap, rfl, hp | ⟨B, rfl, hB1, hB2, hB3⟩⟩ := hp
      · cases hp
      · have HR2 : Hid (rightI k n a b ↔ a.size ≤ 65536 ∧ b.size ≤ 65536) := HR.out.trans ⟨fun x => ⟨(x.1 ht).1, (x.1 ht).2.1⟩, fun x => ⟨fun _ => ⟨x.1, x.2, fun y => absurd h0 y⟩, fun y => by rw [ht] at y; cases y⟩⟩
        have HG : Hid (Gone w w.heap.size B [2, 3] k n w1 a b) := ⟨HI.out.1, HI.out.2, hB2, hB3⟩
        have hlen : ([2, 3] : List Nat).length = 2 := rfl
        rw [hlen]
        clear hB2 hB3 HI HT HK h0 ht e HR hlen HKD
        go_wp2_with fail
        go_loopg [26] 2 (fun g s26 wr => ∃ (j : Nat) (a' b' : ByteArray), j + g = 2 ∧ s26 = .int .i64 j ∧ Hid (Gone w w.heap.size B [2, 3] k n wr a' b') ∧ ((j = 0 ∧ a' = a ∧ b' = b) ∨ (j = 1 ∧ a' = ⟨#[]⟩ ∧ b' = b ∧ a.size ≤ 65536) ∨ (j = 2 ∧ a' = ⟨#[]⟩ ∧ b' = ⟨#[]⟩ ∧ a.size ≤ 65536 ∧ b.size ≤ 65536)))
        case atStart => exact ⟨0, a, b, rfl, rfl, HG, .inl ⟨rfl, rfl, rfl⟩⟩
        case round =>
          clear HG
          obtain ⟨j, a', b', hjg, rfl, HG, hj⟩ := hrel
          have q0 := HG.out.2.2.2 0 2 rfl
          have q1 := HG.out.2.2.2 1 3 rfl
          have c2 := HG.out.1.c2
          have c3 := HG.out.1.c3
          have f2 := HG.out.1.free 2
          have f3 := HG.out.1.free 3
          have hN := HG.out.1.lt
          rcases hj with ⟨rfl, rfl, rfl⟩ | ⟨rfl, rfl, rfl, h1⟩ | ⟨rfl, rfl, rfl, h1, h2⟩
          · by_cases h1 : a'.size ≤ 65536
            · go_wp2_with (go_at_call 28; refine (iText_any _ _).mono ?_; rintro e w' ⟨rfl, rfl⟩; rw [decide_eq_true h1])
              go_roundg 1
              case measure => omega
              case rel => exact ⟨1, ⟨#[]⟩, b', rfl, by go_num, HG.out.put2 (Nat.le_refl _) _, .inr (.inl ⟨rfl, rfl, rfl, h1⟩)⟩
            · have HD := Lib.hid (show decide (rightI k n a' b') = false by rw [decide_eq_false_iff_not, HR2.out]; exact fun x => h1 x.1)
              go_wp2_with (go_at_call 28; refine (iText_any _ _).mono ?_; rintro e w' ⟨rfl, rfl⟩; rw [decide_eq_false h1])
              go_ret
              exact ⟨by rw [HD.out]; rfl, HG.out.2.1⟩
          · by_cases h2 : b'.size ≤ 65536
            · go_wp2_with (go_at_call 28; refine (iText_any _ _).mono ?_; rintro e w' ⟨rfl, rfl⟩; rw [decide_eq_true h2])
              go_roundg 0
              case measure => omega
              case rel => exact ⟨2, ⟨#[]⟩, ⟨#[]⟩, rfl, by go_num, HG.out.put3 (Nat.le_refl _) _, .inr (.inr ⟨rfl, rfl, rfl, h1, h2⟩)⟩
            · have HD := Lib.hid (show decide (rightI k n a b') = false by rw [decide_eq_false_iff_not, HR2.out]; exact fun x => h2 x.2)
              go_wp2_with (go_at_call 28; refine (iText_any _ _).mono ?_; rintro e w' ⟨rfl, rfl⟩; rw [decide_eq_false h2])
              go_ret
              exact ⟨by rw [HD.out]; rfl, HG.out.2.1⟩
          · have HD := Lib.hid (show decide (rightI k n a b) = true by rw [decide_eq_true_iff, HR2.out]; exact ⟨h1, h2⟩)
            go_wp2_with fail
            go_ret
            exact ⟨by rw [HD.out]; rfl, HG.out.2.1⟩
    · have e : offsI k n = [3] := by simp [offsI, ht, h0]
      rw [e] at hp
      obtain ⟨ad, cap, rfl, hp | ⟨B, rfl, hB1, hB2, hB3⟩⟩ := hp
      · cases hp
      · have HR2 : Hid (rightI k n a b ↔ b.size ≤ 65536 ∧ a = ⟨#[]⟩) := HR.out.trans ⟨fun x => ⟨(x.1 ht).2.1, size_nil ((x.1 ht).2.2 h0)⟩, fun x => ⟨fun _ => ⟨by rw [x.2]; decide, x.1, fun _ => by rw [x.2]; rfl⟩, fun y => by rw [ht] at y; cases y⟩⟩
        have HG : Hid (Gone w w.heap.size B [3] k n w1 a b) := ⟨HI.out.1, HI.out.2, hB2, hB3⟩
        have hlen : ([3] : List Nat).length = 1 := rfl
        rw [hlen]
        clear hB2 hB3 HI HT HK h0 ht e HR hlen HKD
        go_wp2_with fail
        go_loopg [26] 1 (fun g s26 wr => ∃ (j : Nat) (b' : ByteArray), j + g = 1 ∧ s26 = .int .i64 j ∧ Hid (Gone w w.heap.size B [3] k n wr a b') ∧ ((j = 0 ∧ b' = b) ∨ (j = 1 ∧ b' = ⟨#[]⟩ ∧ b.size ≤ 65536)))
        case atStart => exact ⟨0, b, rfl, rfl, HG, .inl ⟨rfl, rfl⟩⟩
        case round =>
          clear HG
          obtain ⟨j, b', hjg, rfl, HG, hj⟩ := hrel
          have q0 := HG.out.2.2.2 0 3 rfl
          have c2 := HG.out.1.c2
          have c3 := HG.out.1.c3
          have f3 := HG.out.1.free 3
          have hN := HG.out.1.lt
          rcases hj with ⟨rfl, rfl⟩ | ⟨rfl, rfl, h1⟩
          · by_cases h1 : b'.size ≤ 65536
            · go_wp2_with (go_at_call 28; refine (iText_any _ _).mono ?_; rintro e w' ⟨rfl, rfl⟩; rw [decide_eq_true h1])
              go_roundg 0
              case measure => omega
              case rel => exact ⟨1, ⟨#[]⟩, rfl, by go_num, HG.out.put3 (Nat.le_refl _) _, .inr ⟨rfl, rfl, h1⟩⟩
            · have HD := Lib.hid (show decide (rightI k n a b') = false by rw [decide_eq_false_iff_not, HR2.out]; exact fun x => h1 x.1)
              go_wp2_with (go_at_call 28; refine (iText_any _ _).mono ?_; rintro e w' ⟨rfl, rfl⟩; rw [decide_eq_false h1])
              go_ret
              exact ⟨by rw [HD.out]; rfl, HG.out.2.1⟩
          · have HD : Hid (decide (rightI k n a b) = a.toList.isEmpty) := decide_toList (HR2.out.trans ⟨fun x => x.2, fun x => ⟨h1, x⟩⟩)
            go_wp2_with fail
            all_goals
              go_ret
              exact ⟨by rw [HD.out]; simp [*], HG.out.2.1⟩
  · have ht : textsI k = false := by simpa using ht
    have e : offsI k n = [] := by simp [offsI, ht]
    rw [e] at hp
    obtain ⟨ad, cap, rfl, _⟩ := hp
    have HR2 : Hid (rightI k n a b ↔ a = ⟨#[]⟩ ∧ b = ⟨#[]⟩) := HR.out.trans ⟨fun x => ⟨size_nil (x.2 ht).1, size_nil (x.2 ht).2⟩, fun x => ⟨fun y => by rw [ht] at y; (cases y), fun _ => by rw [x.1, x.2]; exact ⟨rfl, rfl⟩⟩⟩
    have c2 := HI.out.1.c2
    have c3 := HI.out.1.c3
    have hlen : ([] : List Nat).length = 0 := rfl
    rw [hlen]
    clear HT HK ht e HR hlen HKD
    by_cases ha : a = ⟨#[]⟩
    · have HD : Hid (decide (rightI k n a b) = b.toList.isEmpty) := decide_toList (HR2.out.trans ⟨fun x => x.2, fun x => ⟨ha, x⟩⟩)
      have h1 : a.toList = [] := toList_nil.2 ha
      have h2 : a.toList.isEmpty = true := by rw [h1]; rfl
      clear ha
      go_wp2_with fail
      all_goals
        go_loopg [26] 0 (fun g s26 wr => s26 = .int .i64 0 ∧ wr = w1)
        case atStart => exact ⟨rfl, rfl⟩
        case round =>
          obtain ⟨rfl, rfl⟩ := hrel
          go_wp2_with fail
          all_goals
            go_ret
            exact ⟨by rw [HD.out]; simp [*], HI.out.2⟩
    · have HD : Hid (decide (rightI k n a b) = false) := decide_eq_false (fun x => ha (HR2.out.1 x).1)
      have h1 : ¬ a.toList = [] := fun x => ha (toList_nil.1 x)
      have h2 : a.toList.isEmpty = false := by simpa using h1
      clear ha
      go_wp2_with fail
      all_goals
        go_loopg [26] 0 (fun g s26 wr => s26 = .int .i64 0 ∧ wr = w1)
        case atStart => exact ⟨rfl, rfl⟩
        case round =>
          obtain ⟨rfl, rfl⟩ := hrel
          go_wp2_with fail
          all_goals
            go_ret
            exact ⟨by rw [HD.out]; simp [*], HI.out.2⟩
end Go.Proofs.YtimggejonppegaaDoor
