
/-
  Layer 7: SetMost, Len, Size, Most, Get; on nil.
-/
import Derived.Test.YtjaedpekbkmokaaDynShrink
import Derived.Test.YtjaedpekbkmokaaFld
import Derived.Test.YtjaedpekbkmokaaBuilds
import Derived.Deep.QuietTactic
namespace Go.Proofs.Ytjaedpekbkmokaa
open Go.RowKit

theorem fcs_one_at (w : World) (B : Nat) (f : Fd) (h : FldAt w B f.1 f.2) : ∀ (j : Nat) (u : Value), (fcs [f])[j]? = some u → w.cell? ((⟨B, 0, none⟩ : Addr).add j) = some u := by
  intro j u hj
  rw [Go.WideShapes.add_plain, Nat.zero_add]
  rw [fcs_one] at hj
  match j, hj with
  | 0, hj => cases hj; exact h.c0
  | 1, hj => cases hj; exact h.c1
  | j + 2, hj => simp at hj

theorem tlen_any (T base : Nat) (b m : Int) (v : Value) (fs : List Fd) (w : World) (h : TabO w base T b m v fs) :
    Calls Try.prog 17 #[.pointer (some ⟨T, 0, none⟩)] w fun e w' => e = .returned (.int .i64 (fs.length : Nat)) ∧ w' = w := by
  obtain ⟨_, hT, hr⟩ := h
  obtain ⟨a, c, rfl⟩ := hr.shape
  have c2 := hT.c2
  go_enter Try.func17, Try.ntmps17
  go_wp2_with fail
  go_ret
  exact ⟨rfl, rfl⟩
theorem tsize_any (T base : Nat) (b m : Int) (v : Value) (fs : List Fd) (w : World) (h : TabO w base T b m v fs) :
    Calls Try.prog 18 #[.pointer (some ⟨T, 0, none⟩)] w fun e w' => e = .returned (.int .i64 (sumF fs : Nat)) ∧ w' = w := by
  obtain ⟨_, hT, _⟩ := h
  have c3 := hT.c3
  go_enter Try.func18, Try.ntmps18
  go_wp2_with fail
  go_ret
  exact ⟨rfl, rfl⟩
theorem tmost_any (T base : Nat) (b m : Int) (v : Value) (fs : List Fd) (w : World) (h : TabO w base T b m v fs) :
    Calls Try.prog 19 #[.pointer (some ⟨T, 0, none⟩)] w fun e w' => e = .returned (.int .i64 m) ∧ w' = w := by
  obtain ⟨_, hT, _⟩ := h
  have c1 := hT.c1
  go_enter Try.func19, Try.ntmps19
  go_wp2_with fail
  go_ret
  exact ⟨rfl, rfl⟩
theorem tlen_nil (w : World) : Calls Try.prog 17 #[.pointer none] w fun e w' => e = .returned (.int .i64 0) ∧ w' = w := by
  go_enter Try.func17, Try.ntmps17
  go_wp2_with fail
  go_ret
  exact ⟨rfl, rfl⟩
theorem tsize_nil (w : World) : Calls Try.prog 18 #[.pointer none] w fun e w' => e = .returned (.int .i64 0) ∧ w' = w := by
  go_enter Try.func18, Try.ntmps18
  go_wp2_with fail
  go_ret
  exact ⟨rfl, rfl⟩
theorem tmost_nil (w : World) : Calls Try.prog 19 #[.pointer none] w fun e w' => e = .returned (.int .i64 0) ∧ w' = w := by
  go_enter Try.func19, Try.ntmps19
  go_wp2_with fail
  go_ret
  exact ⟨rfl, rfl⟩
theorem tclone_nil (w : World) : Calls Try.prog 10 #[.pointer none] w fun e w' => e = .returned (.pointer none) ∧ w' = w := by
  go_enter Try.func10, Try.ntmps10
  go_wp2_with fail
  go_ret
  exact ⟨rfl, rfl⟩
theorem tadd_nil (n x : ByteArray) (w : World) : Calls Try.prog 11 #[.pointer none, .agg #[.string n, .string x]] w fun e w' => e = .returned (.int .i64 1) ∧ Below w.heap.size w w' := by
  go_enter Try.func11, Try.ntmps11
  go_wp2_with fail
  go_ret
  exact ⟨rfl, (Below.refl _ _).alloc (Nat.le_refl _) _⟩
theorem tset_nil (n : Int) (w : World) : Calls Try.prog 8 #[.pointer none, .int .i64 n] w fun e w' => e = .returned (.int .i64 1) ∧ w' = w := by
  go_enter Try.func8, Try.ntmps8
  go_wp2_with fail
  go_ret
  exact ⟨rfl, rfl⟩
theorem tset_no (T base : Nat) (b m n : Int) (v : Value) (fs : List Fd) (w : World) (h : TabO w base T b m v fs) (hn : ¬ (0 ≤ n ∧ n ≤ b)) :
    Calls Try.prog 8 #[.pointer (some ⟨T, 0, none⟩), .int .i64 n] w fun e w' => e = .returned (.int .i64 1) ∧ w' = w := by
  have c0 := h.2.1.c0
  have d : decide (0 ≤ n ∧ n ≤ b) = false := decide_eq_false hn
  clear hn h
  go_enter Try.func8, Try.ntmps8
  go_wp2_with fail
  refine (within_any _ _ _).mono ?_
  rintro e w' ⟨rfl, rfl⟩
  rw [d]
  go_wp2_with fail
  go_ret
  exact ⟨rfl, rfl⟩
theorem tset_any (T base : Nat) (b m n : Int) (v : Value) (fs : List Fd) (w : World) (h : TabO w base T b m v fs) (hn : 0 ≤ n ∧ n ≤ b) (hz : sumF fs ≤ 1000000000) :
    Calls Try.prog 8 #[.pointer (some ⟨T, 0, none⟩), .int .i64 n] w fun e w' => e = .returned (.int .i64 0) ∧ ∃ v', TabO w' base T b n v' (shrinkF n fs) ∧ From w v v' ∧ Mv T v w w' := by
  have c0 := h.2.1.c0
  have c1 := h.2.1.c1
  have f1 : w.frozen? ⟨T, 1, none⟩ = false := h.2.1.free
  have d : decide (0 ≤ n ∧ n ≤ b) = true := decide_eq_true hn
  have h1 : TabO (w.setCell ⟨T, 1, none⟩ (.int .i64 n)) base T b n v fs := ⟨h.1, h.2.1.s1 n, h.2.2.of_block (fun g hg => Below.heap_setCell _ _ _ _ (fun e => h.sep (by rw [hg]; exact congrArg some e)))⟩
  have HT := Lib.hid h1
  clear hn h1 h
  go_enter Try.func8, Try.ntmps8
  go_wp2_with fail
  refine (within_any _ _ _).mono ?_
  rintro e w' ⟨rfl, rfl⟩
  rw [d]
  go_wp2_with fail
  refine (shrink_any T base b n n v fs _ HT.out hz).mono ?_
  rintro e w1 ⟨rfl, v', hT', hf', hm'⟩
  have HR := Lib.hid (And.intro hT' (And.intro hf' hm'))
  clear hT' hf' hm'
  go_wp2_with fail
  go_ret
  obtain ⟨hT', hf', hm'⟩ := HR.out
  exact ⟨rfl, v', hT', fun g hg => (hf' g hg).imp_right (by simp), (Mv.set T v w' 1 _).trans hm' (fun g hg => .inl hg)⟩

/-- the field of an index, the newest one first -/
def getO (fs : List Fd) (i : Int) : Value := if 1 ≤ i ∧ i ≤ fs.length then .tuple #[.agg #[.string (fs.getD (fs.length - i.toNat) (⟨#[]⟩, ⟨#[]⟩)).1, .string (fs.getD (fs.length - i.toNat) (⟨#[]⟩, ⟨#[]⟩)).2], .int .i64 0] else .tuple #[.agg #[.string ⟨#[]⟩, .string ⟨#[]⟩], .int .i64 5]
theorem tget_nil (i : Int) (w : World) : Calls Try.prog 16 #[.pointer none, .int .i64 i] w fun e w' => e = .returned (.tuple #[.agg #[.string ⟨#[]⟩, .string ⟨#[]⟩], .int .i64 1]) ∧ Below w.heap.size w w' := by
  go_enter Try.func16, Try.ntmps16
  go_wp2_with fail
  refine bodyPost_ret (results_row_tmp1 rfl _ _ w.heap.size 32 #[.string ⟨#[]⟩, .string ⟨#[]⟩] (0, 0) _ rfl (heap_alloc_new _ _) Try.underlying32 rfl (by kernel_rfl)) rfl ⟨rfl, (Below.refl _ _).alloc (Nat.le_refl _) _⟩
set_option maxHeartbeats 1000000 in
theorem tget_any (T base : Nat) (b m i : Int) (v : Value) (fs : List Fd) (w : World) (h : TabO w base T b m v fs) :
    Calls Try.prog 16 #[.pointer (some ⟨T, 0, none⟩), .int .i64 i] w fun e w' => e = .returned (getO fs i) ∧ Below w.heap.size w w' := by
  obtain ⟨_, hT, hr⟩ := h
  have hsl := hr.toSl
  obtain ⟨a, c, rfl, hc1, hc2⟩ := hsl.shape
  unfold maxLen at hc2
  have hTa := hT.below ((Below.refl w.heap.size w).alloc (Nat.le_refl _) (.cells #[.string ⟨#[]⟩, .string ⟨#[]⟩] 32))
  have c2 := hTa.c2
  by_cases hi : 1 ≤ i ∧ i ≤ fs.length
  · obtain ⟨k, rfl⟩ : ∃ k : Nat, i = (k : Int) + 1 := ⟨(i - 1).toNat, by omega⟩
    have hk : k < fs.length := by omega
    obtain ⟨q, hq⟩ : ∃ q, q = fs.length - (k + 1) := ⟨_, rfl⟩
    have hql : q < fs.length := by omega
    obtain ⟨f, hf⟩ : ∃ f, fs[q]? = some f := ⟨fs[q], List.getElem?_eq_getElem hql⟩
    have HG := Lib.hid (show getO fs ((k : Int) + 1) = .tuple #[.agg #[.string f.1, .string f.2], .int .i64 0] by
      rw [getO, if_pos hi, show ((k : Int) + 1).toNat = k + 1 by omega, ← hq, List.getD_eq_getElem?_getD, hf, Option.getD_some])
    obtain ⟨bk, off, rfl, hbl, hcell⟩ := hsl.at_ hql
    obtain ⟨y0, y1⟩ := hcell f hf
    have d1 : decide ((k : Int) + 1 < 1) = false := decide_eq_false (by omega)
    have d2 : decide ((fs.length : Int) < (k : Int) + 1) = false := decide_eq_false (by omega)
    obtain ⟨N, hN⟩ : ∃ N, N = fs.length := ⟨_, rfl⟩
    rw [← hN] at hc1 hql hq hk d2 c2 hTa hT
    have hsub : IntKind.i64.wrap ((N : Int) - ((k : Int) + 1)) = (q : Int) := by
      have e : (N : Int) - ((k : Int) + 1) = q := by omega
      rw [e]; exact wrap_i64_small (by omega) (by omega)
    have hix := run_index_sl (P := Try.prog) (t := 46) (s := 2) sliceFld (fun _ => by kernel_rfl) bk off N c q hql
    clear hi hcell hsl hf hN
    go_enter Try.func16, Try.ntmps16
    go_wp2_with fail
    refine wp_region_table 13 [21, 22, 23, 24, 25, 26, 27, 28, 29, 30, 31, 32, 33] [[], [(0, 21)], [(1, 22)], [(2, 23)], [], [(4, 25)], [(5, 26)], [(6, 27)], [(7, 28)], [], [(8, 29), (9, 30)], [(3, 24), (10, 31)], [(11, 32)]]
      (fun i u _ => match i with
        | 0 => u = .pointer (some ⟨T, 0, none⟩)
        | 1 => u = .pointer (some ⟨T, 0, none⟩)
        | 2 => u = .pointer (some ⟨T, 2, none⟩)
        | 3 => u = .slice (some ⟨bk, off, none⟩) N c
        | 4 => u = .pointer (some ⟨T, 0, none⟩)
        | 5 => u = .pointer (some ⟨T, 0, none⟩)
        | 6 => u = .pointer (some ⟨T, 2, none⟩)
        | 7 => u = .slice (some ⟨bk, off, none⟩) N c
        | 8 => u = .int .i64 N
        | 9 => u = .int .i64 ((k : Int) + 1)
        | 10 => u = .int .i64 q
        | 11 => u = .pointer (some ⟨bk, off + q * 2, none⟩)
        | 12 => u = .agg #[.string f.1, .string f.2]
        | _ => True) (by kernel_rfl) (by kernel_rfl) ?tStab ?tOps ?tRest
    case tStab =>
      intro i u w3 w4 h hb
      match i, h with
      | 0, h | 1, h | 2, h | 3, h | 4, h | 5, h | 6, h | 7, h | 8, h | 9, h | 10, h | 11, h | 12, h => exact h
      | i + 13, _ => trivial
    case tOps =>
      simp only [List.take_succ_cons, List.take_zero, opsOk]
      refine ⟨?_, ?_, ?_, ?_, ?_, ?_, ?_, ?_, ?_, ?_, ?_, ?_, ?_, trivial⟩
      · intro ρ w3 hc hf ho hB hj
        have x0 : ρ (.tmp 0) = .pointer (some ⟨T, 0, none⟩) := ho 0 (by decide)
        simp [gives, go_sem, x0, Below.refl]
      · intro ρ w3 hc hf ho hB hj
        have x0 : ρ (.tmp 21) = .pointer (some ⟨T, 0, none⟩) := hj (0, 21) (by simp)
        simp [gives, go_sem, x0, Below.refl]
      · intro ρ w3 hc hf ho hB hj
        have x0 : ρ (.tmp 22) = .pointer (some ⟨T, 0, none⟩) := hj (1, 22) (by simp)
        simp [gives, go_sem, x0, Below.refl]
      · intro ρ w3 hc hf ho hB hj
        have x0 : ρ (.tmp 23) = .pointer (some ⟨T, 2, none⟩) := hj (2, 23) (by simp)
        have cc := (hTa.below hB).c2
        simp [gives, go_sem, x0, cc, Below.refl]
      · intro ρ w3 hc hf ho hB hj
        have x0 : ρ (.tmp 0) = .pointer (some ⟨T, 0, none⟩) := ho 0 (by decide)
        simp [gives, go_sem, x0, Below.refl]
      · intro ρ w3 hc hf ho hB hj
        have x0 : ρ (.tmp 25) = .pointer (some ⟨T, 0, none⟩) := hj (4, 25) (by simp)
        simp [gives, go_sem, x0, Below.refl]
      · intro ρ w3 hc hf ho hB hj
        have x0 : ρ (.tmp 26) = .pointer (some ⟨T, 0, none⟩) := hj (5, 26) (by simp)
        simp [gives, go_sem, x0, Below.refl]
      · intro ρ w3 hc hf ho hB hj
        have x0 : ρ (.tmp 27) = .pointer (some ⟨T, 2, none⟩) := hj (6, 27) (by simp)
        have cc := (hTa.below hB).c2
        simp [gives, go_sem, x0, cc, Below.refl]
      · intro ρ w3 hc hf ho hB hj
        have x0 : ρ (.tmp 28) = .slice (some ⟨bk, off, none⟩) N c := hj (7, 28) (by simp)
        simp [gives, go_sem, x0, Below.refl]
      · intro ρ w3 hc hf ho hB hj
        have x0 : ρ (.tmp 1) = .int .i64 ((k : Int) + 1) := ho 1 (by decide)
        simp [gives, go_sem, x0, Below.refl]
      · intro ρ w3 hc hf ho hB hj
        have x0 : ρ (.tmp 29) = .int .i64 N := hj (8, 29) (by simp)
        have x1 : ρ (.tmp 30) = .int .i64 ((k : Int) + 1) := hj (9, 30) (by simp)
        simp [gives, go_sem, x0, x1, hsub, Below.refl]
      · intro ρ w3 hc hf ho hB hj
        have x0 : ρ (.tmp 24) = .slice (some ⟨bk, off, none⟩) N c := hj (3, 24) (by simp)
        have x1 : ρ (.tmp 31) = .int .i64 q := hj (10, 31) (by simp)
        simp [gives, go_sem, x0, x1, hix, Below.refl]
      · intro ρ w3 hc hf ho hB hj
        have x0 : ρ (.tmp 32) = .pointer (some ⟨bk, off + q * 2, none⟩) := hj (11, 32) (by simp)
        have hB2 := ((Below.refl w.heap.size w).alloc (Nat.le_refl _) (.cells #[.string ⟨#[]⟩, .string ⟨#[]⟩] 32)).trans (hB.mono (by simp))
        have z0 := (hB2.cell (p := ⟨bk, off + q * 2, none⟩) hbl).trans y0
        have z1 := (hB2.cell (p := ⟨bk, off + q * 2 + 1, none⟩) hbl).trans y1
        simp [gives, go_sem, x0, z0, z1, Below.refl]
    case tRest =>
      intro x w3 hb3 hx
      have e0 : x 0 = .pointer (some ⟨T, 0, none⟩) := hx 0 (by decide)
      have e1 : x 1 = .pointer (some ⟨T, 0, none⟩) := hx 1 (by decide)
      have e2 : x 2 = .pointer (some ⟨T, 2, none⟩) := hx 2 (by decide)
      have e3 : x 3 = .slice (some ⟨bk, off, none⟩) N c := hx 3 (by decide)
      have e4 : x 4 = .pointer (some ⟨T, 0, none⟩) := hx 4 (by decide)
      have e5 : x 5 = .pointer (some ⟨T, 0, none⟩) := hx 5 (by decide)
      have e6 : x 6 = .pointer (some ⟨T, 2, none⟩) := hx 6 (by decide)
      have e7 : x 7 = .slice (some ⟨bk, off, none⟩) N c := hx 7 (by decide)
      have e8 : x 8 = .int .i64 N := hx 8 (by decide)
      have e9 : x 9 = .int .i64 ((k : Int) + 1) := hx 9 (by decide)
      have e10 : x 10 = .int .i64 q := hx 10 (by decide)
      have e11 : x 11 = .pointer (some ⟨bk, off + q * 2, none⟩) := hx 11 (by decide)
      have e12 : x 12 = .agg #[.string f.1, .string f.2] := hx 12 (by decide)
      simp only [putAll, List.getD_cons_zero, List.getD_cons_succ, Act.put, List.setIfInBounds_toArray, List.set_cons_zero, List.set_cons_succ, List.drop_succ_cons, List.drop_zero]
      rw [e0, e1, e2, e3, e4, e5, e6, e7, e8, e9, e10, e11, e12]
      clear hx e0 e1 e2 e3 e4 e5 e6 e7 e8 e9 e10 e11 e12
      have hg : Hid (w3.heap[w.heap.size]? = some (.cells #[.string ⟨#[]⟩, .string ⟨#[]⟩] 32 (0, 0)) ∧ Below w.heap.size w w3) :=
        ⟨(hb3.block _ (by simp)).trans (heap_alloc_new _ _), ((Below.refl _ _).alloc (Nat.le_refl _) _).trans (hb3.mono (by simp))⟩
      clear hb3
      go_wp2_with (with_reducible refine store_fld rfl (.tmp 4) (.tmp 33) rfl w.heap.size f.1 f.2 _ _ rfl rfl hg.out.1 ?_)
      refine bodyPost_ret (results_row_tmp1 rfl _ _ w.heap.size 32 #[.string f.1, .string f.2] (0, 0) _ rfl (setRow_heap _ _ _ _ _ _ hg.out.1) Try.underlying32 rfl (by kernel_rfl)) rfl ⟨?_, below_setRow hg.out.2 (Nat.le_refl _) _⟩
      rw [HG.out]; rfl
  · have HG := Lib.hid (show getO fs i = .tuple #[.agg #[.string ⟨#[]⟩, .string ⟨#[]⟩], .int .i64 5] by rw [getO, if_neg hi])
    by_cases h1 : i < 1
    · have d1 : decide (i < 1) = true := decide_eq_true h1
      clear hi h1
      go_enter Try.func16, Try.ntmps16
      go_wp2_with fail
      refine bodyPost_ret (results_row_tmp1 rfl _ _ w.heap.size 32 #[.string ⟨#[]⟩, .string ⟨#[]⟩] (0, 0) _ rfl (heap_alloc_new _ _) Try.underlying32 rfl (by kernel_rfl)) rfl ⟨?_, (Below.refl _ _).alloc (Nat.le_refl _) _⟩
      rw [HG.out]; rfl
    · have d1 : decide (i < 1) = false := decide_eq_false h1
      have d2 : decide ((fs.length : Int) < i) = true := decide_eq_true (by omega)
      clear hi h1
      go_enter Try.func16, Try.ntmps16
      go_wp2_with fail
      refine bodyPost_ret (results_row_tmp1 rfl _ _ w.heap.size 32 #[.string ⟨#[]⟩, .string ⟨#[]⟩] (0, 0) _ rfl (heap_alloc_new _ _) Try.underlying32 rfl (by kernel_rfl)) rfl ⟨?_, (Below.refl _ _).alloc (Nat.le_refl _) _⟩
      rw [HG.out]; rfl
end Go.Proofs.Ytjaedpekbkmokaa
