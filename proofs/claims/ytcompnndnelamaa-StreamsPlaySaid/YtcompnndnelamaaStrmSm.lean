
/-
  Layer 17's program: within, oddUpTo; slices.Index, Contains, Clone, Delete of numbers.
-/
import Derived.Test.YtcompnndnelamaaStrmRef
import Derived.Test.YtcompnndnelamaaAppAt
import Derived.Laws.OwnMore
import Derived.Shelf.RegionOpenPlain
import Derived.Deep.RegionLaw
import Derived.Sort.WalkB12
namespace Go.Proofs.Ytcompnndnelamaa
set_option maxRecDepth 20000
open Go.RowKit

def inB (n a b : Int) : Bool := decide (a ≤ n) && decide (n ≤ b)
theorem inB_yes {n a b : Int} (h : a ≤ n ∧ n ≤ b) : inB n a b = true := by
  unfold inB
  rw [decide_eq_true h.1, decide_eq_true h.2]; rfl
theorem inB_no {n a b : Int} (h : ¬ (a ≤ n ∧ n ≤ b)) : inB n a b = false := by
  unfold inB
  by_cases h1 : a ≤ n
  · rw [decide_eq_true h1, decide_eq_false (fun q => h ⟨h1, q⟩)]; rfl
  · rw [decide_eq_false h1]; rfl
theorem in17_any (n a b : Int) (w : World) :
    Calls Try.prog 20 #[.int .i64 n, .int .i64 a, .int .i64 b] w fun e w' => e = .returned (.bool (inB n a b)) ∧ w' = w := by
  have HD := Lib.hid (show inB n a b = (decide (a ≤ n) && decide (n ≤ b)) from rfl)
  obtain ⟨c, hc⟩ : ∃ c, decide (a ≤ n) = c := ⟨_, rfl⟩
  rw [hc] at HD
  cases c
  all_goals
    go_enter Try.func20, Try.ntmps20
    go_wp2_with fail
    go_ret
    exact ⟨by rw [HD.out]; rfl, rfl⟩
/-- an id that is odd, and from 1 to a greatest one -/
def oddB (n m : Int) : Bool := decide (1 ≤ n ∧ n ≤ m ∧ n % 2 = 1)
theorem odd17_any (n m : Int) (w : World) :
    Calls Try.prog 21 #[.int .i64 n, .int .i64 m] w fun e w' => e = .returned (.bool (oddB n m)) ∧ w' = w := by
  by_cases h : 1 ≤ n ∧ n ≤ m
  · have HI := Lib.hid (inB_yes h)
    have ht : n.tmod 2 = n % 2 := Int.tmod_eq_emod_of_nonneg (by omega)
    by_cases h2 : n % 2 = 1
    · have HO := Lib.hid (show oddB n m = true from decide_eq_true ⟨h.1, h.2, h2⟩)
      rw [h2] at ht
      clear h h2
      go_enter Try.func21, Try.ntmps21
      go_wp2_with fail
      refine (in17_any n 1 m _).mono ?_
      rintro e w1 ⟨rfl, rfl⟩
      rw [HI.out]
      go_wp2_with fail
      go_ret
      exact ⟨by rw [HO.out]; rfl, rfl⟩
    · have HO := Lib.hid (show oddB n m = false from decide_eq_false (fun q => h2 q.2.2))
      rw [show n % 2 = 0 by omega] at ht
      clear h h2
      go_enter Try.func21, Try.ntmps21
      go_wp2_with fail
      refine (in17_any n 1 m _).mono ?_
      rintro e w1 ⟨rfl, rfl⟩
      rw [HI.out]
      go_wp2_with fail
      go_ret
      exact ⟨by rw [HO.out]; rfl, rfl⟩
  · have HI := Lib.hid (inB_no h)
    have HO := Lib.hid (show oddB n m = false from decide_eq_false (fun q => h ⟨q.1, q.2.1⟩))
    clear h
    go_enter Try.func21, Try.ntmps21
    go_wp2_with fail
    refine (in17_any n 1 m _).mono ?_
    rintro e w1 ⟨rfl, rfl⟩
    rw [HI.out]
    go_wp2_with fail
    go_ret
    exact ⟨by rw [HO.out]; rfl, rfl⟩

theorem index17_any (v : Value) (l : List Int) (n : Int) (w : World) (h : Sl .i64 w v l) :
    Calls Try.prog 36 #[v, .int .i64 n] w fun e w' => ∃ r : Int, e = .returned (.int .i64 r) ∧ decide (0 ≤ r) = decide (n ∈ l) ∧ w' = w := by
  have hml := h.len
  unfold maxLen at hml
  obtain ⟨a, c, rfl, _⟩ := id h
  obtain ⟨N, hN⟩ : ∃ N, N = l.length := ⟨_, rfl⟩
  rw [← hN] at h hml ⊢
  have HN := Lib.hid hN
  clear hN
  go_enter Try.func36, Try.ntmps36
  go_wp2_with fail
  go_loopg [5, 8] N (fun q s5 s8 wr => ∃ k : Nat, k + q = N ∧ s8 = .int .i64 k ∧ Hid (n ∉ l.take k) ∧ wr = w)
  case atStart => exact ⟨0, by omega, rfl, Lib.hid (by simp), rfl⟩
  case round =>
    obtain ⟨k, hkq, rfl, HL, rfl⟩ := hrel
    have HKQ := Lib.hid hkq
    have hk : k ≤ N := by omega
    clear hkq
    by_cases hlt : k < N
    · obtain ⟨b, off, rfl, hb, c0⟩ := h.adr k (by rw [← HN.out]; exact hlt)
      have hl : l.take (k + 1) = l.take k ++ [at0 l k] := take_at0 l k (by rw [← HN.out]; exact hlt)
      have hm : at0 l k ∈ l := at0_mem (by rw [← HN.out]; exact hlt)
      obtain ⟨y, hy⟩ : ∃ y, at0 l k = y := ⟨_, rfl⟩
      rw [hy] at hl c0 hm
      by_cases he : y = n
      · have d0 : (n == y) = true := by rw [beq_iff_eq]; exact he.symm
        have HD := Lib.hid (show decide (n ∈ l) = true from decide_eq_true (he ▸ hm))
        clear he hl hy hm
        go_wp2_with fail
        go_ret
        exact ⟨k, rfl, by rw [HD.out]; exact decide_eq_true (by omega), rfl⟩
      · have d0 : (n == y) = false := by rw [beq_eq_false_iff_ne]; exact fun e => he e.symm
        have HE := Lib.hid (show n ∉ l.take (k + 1) by rw [hl, List.mem_append, List.mem_singleton]; exact fun e => e.elim HL.out (fun e => he e.symm))
        clear he hl hy hm
        go_wp2_with fail
        go_roundg (N - (k + 1))
        case measure => have := HKQ.out; omega
        case rel => exact ⟨k + 1, by omega, by go_num, HE, rfl⟩
    · obtain rfl : k = N := by omega
      have HD := Lib.hid (show decide (n ∈ l) = false from decide_eq_false (by have := HL.out; rwa [List.take_of_length_le (by rw [HN.out]; exact Nat.le_refl _)] at this))
      clear hlt hk
      go_wp2_with fail
      go_ret
      exact ⟨-1, rfl, by rw [HD.out]; rfl, rfl⟩
theorem contains17_any (v : Value) (l : List Int) (n : Int) (w : World) (h : Sl .i64 w v l) :
    Calls Try.prog 32 #[v, .int .i64 n] w fun e w' => e = .returned (.bool (decide (n ∈ l))) ∧ w' = w := by
  obtain ⟨a, c, rfl, _⟩ := id h
  have HH := Lib.hid h
  clear h
  go_enter Try.func32, Try.ntmps32
  go_wp2_with fail
  refine (index17_any _ l n w HH.out).mono ?_
  rintro e w1 ⟨r, rfl, hr, rfl⟩
  have HR := Lib.hid hr
  clear hr
  go_wp2_with fail
  go_ret
  exact ⟨by rw [← HR.out]; rfl, rfl⟩

theorem nil17_none (W : World) : (binOp .eql 36 (.slice none 0 0) (.slice none 0 0)).run Try.prog W = .ok (.bool true) W := by kernel_rfl
theorem nil17_some (ad : Addr) (n c : Nat) (W : World) : (binOp .eql 36 (.slice (some ad) n c) (.slice none 0 0)).run Try.prog W = .ok (.bool false) W := by kernel_rfl
set_option maxHeartbeats 1000000 in
theorem clone17_any (v : Value) (zs : List Int) (w : World) (hv : Sl .i64 w v zs) (hl : zs.length ≤ 1000000) :
    Calls Try.prog 26 #[v] w fun e w' => ∃ bv, e = .returned bv ∧ Sl .i64 w' bv zs ∧ Below w.heap.size w w' := by
  obtain ⟨a, cap, rfl, _⟩ := id hv
  obtain ⟨N, hN⟩ : ∃ N, N = zs.length := ⟨_, rfl⟩
  rw [← hN] at hv ⊢
  cases a with
  | none =>
    obtain ⟨rfl, rfl⟩ := hv.bare
    obtain rfl : zs = [] := List.eq_nil_of_length_eq_zero hN.symm
    clear hv hN hl
    have hq : ∀ W, (binOp .eql 36 (.slice none 0 0) (.slice none 0 0)).run Try.prog W = .ok (.bool true) W := fun W => nil17_none W
    go_enter Try.func26, Try.ntmps26
    go_wp2
    go_ret
    exact ⟨_, rfl, Sl.nil _ _, Below.refl _ _⟩
  | some ad =>
    have hal := (Below.refl w.heap.size w).alloc (Nat.le_refl _) (.cells #[] 3)
    have HS := Lib.hid (hv.below hal)
    have HO := Lib.hid (show (w.alloc (.cells #[] 3)).ownsRow w.heap.size 3 1 (.slice (some ⟨w.heap.size, 0, none⟩) 0 0) 0 (([] : List Int).map (Value.int .i64)) from owned_lit [] (Nat.le_refl _) rfl rfl rfl (by simp))
    have HB := Lib.hid hal
    have HN := Lib.hid hN
    clear hal hN
    have hq : ∀ W, (binOp .eql 36 (.slice (some ad) N cap) (.slice none 0 0)).run Try.prog W = .ok (.bool false) W := fun W => nil17_some ad N cap W
    go_enter Try.func26, Try.ntmps26
    go_wp2_with (at_builtin; refine app_ints rfl (.tmp 5) (.tmp 6) 36 rfl w.heap.size 3 .i64 8 Try.underlying36 Try.infoI17 _ 0 ([] : List Int) rfl HO.out _ zs rfl HS.out (by simp; omega) (by simp; unfold maxLen; omega) (by simp) ?_; intro v2 w3 hO3 hb3 hg3)
    go_ret
    simp only [List.nil_append, List.length_nil, Nat.zero_add] at hO3
    exact ⟨_, rfl, Sl.owned hO3 hv.fit (by unfold maxLen; omega), HB.out.trans hb3⟩

/-- a row of numbers of the object's own -/
def RowI (w : World) (v : Value) (l : List Int) : Prop := w.ownsRow 0 3 1 v l.length (l.map (Value.int .i64))
theorem zeros17 (n : Nat) : ∀ u ∈ (Builtin.zeroCells (Value.int .i64 0).cells n).toList, u.oneCell' = true := by
  intro u hu
  simp only [Builtin.zeroCells, Array.mem_toList_iff, Array.mem_map] at hu
  obtain ⟨i, _, rfl⟩ := hu
  have h2 : (Value.int .i64 0).cells.size = 1 := rfl
  rw [h2, Nat.mod_one]
  rfl
theorem zeroI17 (w : World) : (zeroValue 3).run Try.prog w = .ok (.int .i64 0) w := by kernel_rfl
/-- 'clear(s)', s a row's rest -/
theorem run_clear_rest17 {P : Program} (w : World) (t e : TypeId) (z : Value) (size : Nat) (ht : P.underlying t = some (.slice e)) (hv : ∀ w, (zeroValue e).run P w = .ok z w) (hz : z.cells.size = size) (h1 : ∀ n, ∀ u ∈ (Builtin.zeroCells z.cells n).toList, u.oneCell' = true)
    (base g m cap n : Nat) (xs : List Value) (hown : w.ownsRow base e size (.slice (some ⟨g, 0, none⟩) m cap) m xs) (hn : 0 < n) (hroom : m + n ≤ cap) :
    ∃ w', (∀ ty c, (Builtin.clear_ #[t] ty #[.slice (some ⟨g, m * size, none⟩) n c]).run P w = .ok (.tuple #[]) w') ∧ w'.ownsRow base e size (.slice (some ⟨g, 0, none⟩) m cap) m xs ∧ w.grownBy w' (some g) := by
  obtain ⟨hlen, hcase⟩ := hown
  rcases hcase with ⟨h, _⟩ | ⟨g', cap', cur, h, hbg, hg, hnc, hcm, hcs, htake⟩
  · simp at h
  · simp only [Value.slice.injEq, Option.some.injEq, Addr.mk.injEq, and_true, true_and] at h
    obtain ⟨rfl, rfl⟩ := h
    have hzl : (Builtin.zeroCells z.cells n).toList.length = n * size := by simp [Builtin.zeroCells, hz]
    have hfit : m * size + 0 + (Builtin.zeroCells z.cells n).toList.length ≤ cur.size := by rw [hzl, hcs, Nat.add_zero, ← Nat.add_mul]; exact Nat.mul_le_mul_right _ hroom
    have hst := run_storeCells_at P g (m * size) e (Builtin.zeroCells z.cells n).toList 0 cur w hg hfit (h1 n)
    obtain ⟨k, rfl⟩ : ∃ k, n = k + 1 := ⟨n - 1, by omega⟩
    refine ⟨_, fun ty c => by simp only [Builtin.clear_]; simp [run_underlying ht, hv, hst]; rfl, ⟨hlen, .inr ⟨g, cap, _, rfl, hbg, setRow_heap w g cur _ e _ hg, hnc, hcm, ?_, ?_⟩⟩, ⟨rfl, rfl, rfl, by simp, fun j _ hj => setRow_other w g j _ (fun e => hj (by rw [e]))⟩⟩
    · simp only [List.size_toArray, List.length_append, List.length_take, List.length_drop, Array.length_toList]
      simp only [Array.length_toList] at hfit hzl
      omega
    · have hml : m * size ≤ cur.toList.length := by rw [Array.length_toList]; omega
      show List.take (m * size) (List.take (m * size) cur.toList ++ _) = xs
      rw [List.take_append_of_le_length (by rw [List.length_take]; omega), List.take_take, Nat.min_self, htake]
/-- 'append' that has room, as an operation of a region that draws -/
theorem step_app_fits17 {P : Program} {ops : Array Oper} {o : Oper} {a : Act} {w : World} {K : Act → World → Prop} {Q : Exit → Act → World → Prop} {E : Prop}
    (hg : o.guard = none) (s x : Operand) (t : TypeId) (hop : o.op = Op.call { callee := Callee.builtin Builtin.append, args := #[s, x], argTypes := #[t, t] })
    (base : Nat) (e : TypeId) (i : TypeInfo) (size : Nat) (ht : P.underlying t = some (.slice e)) (hi : P.info? e = some i) (hsize : i.size = size)
    (g n cap : Nat) (xs : List Value) (hs : a.eval s = .slice (some ⟨g, 0, none⟩) n cap) (hown : w.ownsRow base e size (.slice (some ⟨g, 0, none⟩) n cap) n xs)
    (ad : Addr) (m c : Nat) (news : List Value) (hx : a.eval x = .slice (some ad) m c) (hl : news.length = m * size) (hnews : ∀ j u, news[j]? = some u → w.cell? (ad.add j) = some u) (h1 : ∀ u ∈ news, u.oneCell' = true)
    (hroom : n + m ≤ cap)
    (hK : ∀ w', w'.ownsRow base e size (.slice (some ⟨g, 0, none⟩) (n + m) cap) (n + m) (xs ++ news) → w.grownBy w' (some g) → K (a.put o.dst (.slice (some ⟨g, 0, none⟩) (n + m) cap)) w') :
    if Region.wanted o (yielded ops a.tmps) = true then Oper.wp P o a w K Q else E := by
  have hw : Region.wanted o (yielded ops a.tmps) = true := by simp [Region.wanted, hg]
  rw [if_pos hw]
  obtain ⟨w', hrun, h2, h3⟩ := run_append_fits (P := P) w base t o.type e i size ht hi hsize g n cap xs hown ad m c news hl hnews h1 hroom
  unfold Oper.wp
  simp [execOp, hop, resolve, invoke, builtin, hs, hx, hrun, Result.andThen]
  exact hK _ h2 h3
theorem RowI.cap {w : World} {g n cap : Nat} {l : List Int} (h : RowI w (.slice (some ⟨g, 0, none⟩) n cap) l) : n = l.length ∧ n ≤ cap ∧ cap ≤ maxLen := by
  obtain ⟨h1, h2⟩ := h
  rcases h2 with ⟨h, _⟩ | ⟨g', cap', cur, h, hbg, hg, hnc, hcm, hcs, htake⟩
  · simp at h
  · simp only [Value.slice.injEq, Option.some.injEq, Addr.mk.injEq, and_true] at h
    obtain ⟨rfl, rfl, rfl⟩ := h
    exact ⟨rfl, hnc, hcm⟩
/-- a row's first ones are a row -/
theorem RowI.emptied {w : World} {g n cap : Nat} {l : List Int} (h : RowI w (.slice (some ⟨g, 0, none⟩) n cap) l) : w.ownsRow 0 3 1 (.slice (some ⟨g, 0, none⟩) 0 cap) 0 [] := by
  obtain ⟨h1, h2⟩ := h
  rcases h2 with ⟨h, _⟩ | ⟨g', cap', cur, h, hbg, hg, hnc, hcm, hcs, htake⟩
  · simp at h
  · simp only [Value.slice.injEq, Option.some.injEq, Addr.mk.injEq, and_true] at h
    obtain ⟨rfl, rfl, rfl⟩ := h
    exact ⟨rfl, .inr ⟨g, cap, cur, rfl, hbg, hg, by omega, hcm, hcs, rfl⟩⟩
set_option maxHeartbeats 4000000 in
/-- slices.Delete of the first one -/
theorem delete17_any (g cap : Nat) (l : List Int) (hl : 1 ≤ l.length) (w : World) (h : RowI w (.slice (some ⟨g, 0, none⟩) l.length cap) l) :
    Calls Try.prog 28 #[.slice (some ⟨g, 0, none⟩) l.length cap, .int .i64 0, .int .i64 1] w fun e w' => e = .returned (.slice (some ⟨g, 0, none⟩) (l.length - 1) cap) ∧ RowI w' (.slice (some ⟨g, 0, none⟩) (l.length - 1) cap) (l.drop 1) ∧ w.grownBy w' (some g) := by
  obtain ⟨i0, hi, hz0, hz1, hz2⟩ := info_parts Try.infoI17
  obtain ⟨_, hc1, hc2⟩ := h.cap
  obtain ⟨N, hN⟩ : ∃ N, l.length = N := ⟨_, rfl⟩
  have h00 := h.emptied
  obtain ⟨news, hnews⟩ : ∃ news, news = (l.drop 1).map (Value.int .i64) := ⟨_, rfl⟩
  have s1 : Hid (news.length = (N - 1) * 1) := by show _ = _; rw [hnews, List.length_map, List.length_drop, hN]; omega
  have s2 : Hid (∀ u ∈ news, u.oneCell' = true) := by show ∀ _, _; rw [hnews]; exact ints_oneCell _ _
  obtain ⟨A, hA, hsrc⟩ : ∃ A : Addr, (if cap = 1 then some (⟨g, 0, none⟩ : Addr) else some ⟨g, 1, none⟩) = some A ∧ Hid (∀ t u, news[t]? = some u → w.drew.cell? (A.add t) = some u) := by
    by_cases hcn : cap = 1
    · refine ⟨⟨g, 0, none⟩, by simp [hcn], fun t u hu => ?_⟩
      have hl0 : news.length = 0 := by rw [s1.out]; omega
      rw [List.length_eq_zero_iff.1 hl0] at hu
      simp at hu
    · refine ⟨⟨g, 1, none⟩, by simp [hcn], fun t u hu => ?_⟩
      have ht : t < (N - 1) * 1 := by
        have := (List.getElem?_eq_some_iff.1 hu).1
        rwa [s1.out] at this
      rw [hnews, List.map_drop, List.getElem?_drop] at hu
      rw [Go.WideShapes.add_plain]
      have := World.ownsRow.cellAt h (1 + t) (by omega)
      show w.cell? _ = _
      rw [this, hu]
  have hroom : Hid (0 + (N - 1) ≤ cap) := by show _ ≤ _; omega
  have H00 := Lib.hid h00
  have HN := Lib.hid hN
  have HNW := Lib.hid hnews
  have hnN : 1 ≤ N := by omega
  have hcN : N ≤ cap := by omega
  unfold maxLen at hc2
  have mixed : Try.prog.follows .mixedOrders = true := by kernel_rfl
  have hne : ¬ cap = N - 1 := by omega
  have hle : N - 1 ≤ N := by omega
  have hnI : (1 : Int) ≤ (N : Int) := by omega
  clear h00 hnews hl hc1 h
  rw [hN]
  clear hN
  go_enter Try.func28, Try.ntmps28
  go_wp2_with fail
  go_region_law_o (refine step_app_fits17 rfl (.tmp 22) (.tmp 25) 36 rfl 0 3 i0 1 Try.underlying36 hi hz1 g 0 cap [] (by simp [Act.eval, Act.put]) H00.out A (N - 1) (cap - 1) news (by simp [Act.eval, Act.put]) s1.out hsrc.out s2.out hroom.out ?_; intro w1 hw1 hg1; rw [Nat.zero_add, List.nil_append] at hw1; obtain ⟨w2, hcl, hw2, hg2⟩ := run_clear_rest17 (P := Try.prog) w1 36 3 _ 1 Try.underlying36 zeroI17 rfl zeros17 0 g (N - 1) cap (N - (N - 1)) _ hw1 (by omega) (by omega); simp only [Nat.mul_one] at hcl; have Hw2 := Lib.hid hw2; have Hg := Lib.hid (And.intro hg1 hg2); clear hw2 hg1 hg2 hw1)
  go_wp2
  go_ret
  obtain ⟨hg1, hg2⟩ := Hg.out
  refine ⟨rfl, ?_, ⟨hg2.os.trans hg1.os, hg2.tape.trans hg1.tape, hg2.output.trans hg1.output, Nat.le_trans hg1.size hg2.size, fun k hk hne => (hg2.block k (Nat.lt_of_lt_of_le hk hg1.size) hne).trans (hg1.block k hk hne)⟩⟩
  have e := Hw2.out
  rw [HNW.out] at e
  unfold RowI
  rw [List.length_drop, HN.out]
  exact e
end Go.Proofs.Ytcompnndnelamaa
