
/-
  slices.Delete of the first ones of a row of fields; clear of a row's rest.
-/
import Derived.Test.YtjaedpekbkmokaaDynTab
import Derived.Laws.OwnMore
import Derived.Shelf.RegionOpenPlain
import Derived.Deep.RegionLaw
import Derived.Sort.WalkB12
import Derived.Lib.Hide
namespace Go.Proofs.Ytjaedpekbkmokaa
open Go.RowKit

theorem size_zeroCells' (z : Array Value) (n : Nat) : (Builtin.zeroCells z n).size = n * z.size := by simp [Builtin.zeroCells]
/-- 'clear(s)', s a row's rest -/
theorem run_clear_rest {P : Program} (w : World) (t e : TypeId) (z : Value) (size : Nat) (ht : P.underlying t = some (.slice e)) (hv : ∀ w, (zeroValue e).run P w = .ok z w) (hz : z.cells.size = size) (h1 : ∀ n, ∀ u ∈ (Builtin.zeroCells z.cells n).toList, u.oneCell' = true)
    (base g m cap n : Nat) (xs : List Value) (hown : w.ownsRow base e size (.slice (some ⟨g, 0, none⟩) m cap) m xs) (hn : 0 < n) (hroom : m + n ≤ cap) :
    ∃ w', (∀ ty c, (Builtin.clear_ #[t] ty #[.slice (some ⟨g, m * size, none⟩) n c]).run P w = .ok (.tuple #[]) w') ∧ w'.ownsRow base e size (.slice (some ⟨g, 0, none⟩) m cap) m xs ∧ w.grownBy w' (some g) := by
  obtain ⟨hlen, hcase⟩ := hown
  rcases hcase with ⟨h, _⟩ | ⟨g', cap', cur, h, hbg, hg, hnc, hcm, hcs, htake⟩
  · simp at h
  · simp only [Value.slice.injEq, Option.some.injEq, Addr.mk.injEq, and_true, true_and] at h
    obtain ⟨rfl, rfl⟩ := h
    have hzl : (Builtin.zeroCells z.cells n).toList.length = n * size := by rw [Array.length_toList, size_zeroCells', hz]
    have hfit : m * size + 0 + (Builtin.zeroCells z.cells n).toList.length ≤ cur.size := by rw [hzl, hcs, Nat.add_zero, ← Nat.add_mul]; exact Nat.mul_le_mul_right _ hroom
    have hst := run_storeCells_at P g (m * size) e (Builtin.zeroCells z.cells n).toList 0 cur w hg hfit (h1 n)
    obtain ⟨k, rfl⟩ : ∃ k, n = k + 1 := ⟨n - 1, by omega⟩
    refine ⟨_, fun ty c => by simp only [Builtin.clear_]; simp [run_underlying ht, hv, hst]; rfl, ⟨hlen, .inr ⟨g, cap, _, rfl, hbg, setRow_heap w g cur _ e _ hg, hnc, hcm, ?_, ?_⟩⟩, ⟨rfl, rfl, rfl, by simp, fun j _ hj => setRow_other w g j _ (fun e => hj (by rw [e]))⟩⟩
    · simp only [List.size_toArray, List.length_append, List.length_take, List.length_drop, Array.length_toList]
      simp only [Array.length_toList] at hfit hzl
      omega
    · have hml : m * size ≤ cur.toList.length := by rw [Array.length_toList]; omega
      show List.take (m * size) (List.take (m * size) cur.toList ++ _) = xs
      rw [List.take_append_of_le_length (by rw [List.length_take]; omega), List.take_take, Nat.min_self, htake]

/-- 'append' that has room, as an operation of a region that draws -/
theorem step_app_fits {P : Program} {ops : Array Oper} {o : Oper} {a : Act} {w : World} {K : Act → World → Prop} {Q : Exit → Act → World → Prop} {E : Prop}
    (hg : o.guard = none) (s x : Operand) (t : TypeId) (hop : o.op = Op.call { callee := Callee.builtin Builtin.append, args := #[s, x], argTypes := #[t, t] })
    (base : Nat) (e : TypeId) (i : TypeInfo) (size : Nat) (ht : P.underlying t = some (.slice e)) (hi : P.info? e = some i) (hsize : i.size = size)
    (g n cap : Nat) (xs : List Value) (hs : a.eval s = .slice (some ⟨g, 0, none⟩) n cap) (hown : w.ownsRow base e size (.slice (some ⟨g, 0, none⟩) n cap) n xs)
    (ad : Addr) (m c : Nat) (news : List Value) (hx : a.eval x = .slice (some ad) m c) (hl : news.length = m * size) (hnews : ∀ j u, news[j]? = some u → w.cell? (ad.add j) = some u) (h1 : ∀ u ∈ news, u.oneCell' = true)
    (hroom : n + m ≤ cap)
    (hK : ∀ w', w'.ownsRow base e size (.slice (some ⟨g, 0, none⟩) (n + m) cap) (n + m) (xs ++ news) → w.grownBy w' (some g) → K (a.put o.dst (.slice (some ⟨g, 0, none⟩) (n + m) cap)) w') :
    if Region.wanted o (yielded ops a.tmps) = true then Oper.wp P o a w K Q else E := by
  have hw : Region.wanted o (yielded ops a.tmps) = true := by simp [Region.wanted, hg]
  rw [if_pos hw]
  obtain ⟨w', hrun, h2, h3⟩ := run_append_fits (P := P) w base t o.type e i size ht hi hsize g n cap xs hown ad m c news hl hnews h1 hroom
  unfold Oper.wp
  simp [execOp, hop, resolve, invoke, builtin, hs, hx, hrun, Result.andThen]
  exact hK _ h2 h3

theorem sizeFld : (Try.prog.info? 32).map (fun i => (i.zero, i.size, i.bytes)) = some (some (.agg #[.string ⟨#[]⟩, .string ⟨#[]⟩]), 2, 32) := by kernel_rfl
theorem zeroFld (w : World) : (zeroValue 32).run Try.prog w = .ok (.agg #[.string ⟨#[]⟩, .string ⟨#[]⟩]) w := by kernel_rfl
theorem zerosFld (n : Nat) : ∀ u ∈ (Builtin.zeroCells (Value.agg #[.string ⟨#[]⟩, .string ⟨#[]⟩]).cells n).toList, u.oneCell' = true := by
  intro u hu
  simp only [Builtin.zeroCells, Array.mem_toList_iff, Array.mem_map] at hu
  obtain ⟨i, _, rfl⟩ := hu
  have h2 : (Value.agg #[.string ⟨#[]⟩, .string ⟨#[]⟩]).cells.size = 2 := rfl
  rw [h2]
  rcases (by omega : i % 2 = 0 ∨ i % 2 = 1) with h | h <;> rw [h] <;> rfl
/-- a row's first ones are a row -/
theorem RowF.head {w : World} {base g n cap : Nat} {fs : List Fd} (h : RowF w base (.slice (some ⟨g, 0, none⟩) n cap) fs) (m : Nat) (hm : m ≤ fs.length) : RowF w base (.slice (some ⟨g, 0, none⟩) m cap) (fs.take m) := by
  obtain ⟨h1, h2⟩ := h
  rcases h2 with ⟨h, _⟩ | ⟨g', cap', cur, h, hbg, hg, hnc, hcm, hcs, htake⟩
  · simp at h
  · simp only [Value.slice.injEq, Option.some.injEq, Addr.mk.injEq, and_true] at h
    obtain ⟨rfl, rfl, rfl⟩ := h
    have el : (fs.take m).length = m := by simp; omega
    refine ⟨fcs_length _, .inr ⟨g, cap, cur, by rw [el], hbg, hg, by omega, hcm, hcs, ?_⟩⟩
    rw [el, fcs_take, ← htake, List.take_take]
    congr 1
    omega
theorem RowF.cap {w : World} {base g n cap : Nat} {fs : List Fd} (h : RowF w base (.slice (some ⟨g, 0, none⟩) n cap) fs) : n = fs.length ∧ n ≤ cap ∧ cap ≤ maxLen := by
  obtain ⟨h1, h2⟩ := h
  rcases h2 with ⟨h, _⟩ | ⟨g', cap', cur, h, hbg, hg, hnc, hcm, hcs, htake⟩
  · simp at h
  · simp only [Value.slice.injEq, Option.some.injEq, Addr.mk.injEq, and_true] at h
    obtain ⟨rfl, rfl, rfl⟩ := h
    exact ⟨rfl, hnc, hcm⟩
theorem sliceFld : Try.prog.underlying 46 = some (.slice 32) := by kernel_rfl
set_option maxHeartbeats 4000000 in
/-- slices.Delete of the first ones -/
theorem delete_any (base : Nat) (v : Value) (fs : List Fd) (n : Nat) (hn : n ≤ fs.length) (w : World) (h : RowF w base v fs) :
    Calls Try.prog 28 #[v, .int .i64 0, .int .i64 n] w fun e w' => ∃ v', e = .returned v' ∧ RowF w' base v' (fs.drop n) ∧ From w v v' ∧ w.grownBy w' v.ownBlock := by
  by_cases h0 : n = 0
  · subst h0
    obtain ⟨a, cap, rfl⟩ := h.shape
    have hlen := h.len
    have hc : fs.length ≤ cap ∧ cap ≤ maxLen := by
      obtain ⟨a', cap', e, h1, h2⟩ := h.toSl.shape
      simp only [Value.slice.injEq] at e
      obtain ⟨_, _, rfl⟩ := e
      exact ⟨h1, h2⟩
    obtain ⟨hc1, hc2⟩ := hc
    unfold maxLen at hc2
    have HR := Lib.hid h
    clear h hlen
    go_enter Try.func28, Try.ntmps28
    go_wp2
    go_ret
    exact ⟨_, rfl, HR.out, From.refl _ _, World.grownBy.refl _ _⟩
  · obtain ⟨g, cap, rfl⟩ : ∃ g cap, v = .slice (some ⟨g, 0, none⟩) fs.length cap := by
      obtain ⟨_, ⟨_, e⟩ | ⟨g, cap, _, e, _⟩⟩ := id h
      · omega
      · exact ⟨g, cap, e⟩
    obtain ⟨i0, hi, hz0, hz1, hz2⟩ := info_parts sizeFld
    obtain ⟨_, hc1, hc2⟩ := h.cap
    obtain ⟨N, hN⟩ : ∃ N, fs.length = N := ⟨_, rfl⟩
    have h00 := h.head 0 (Nat.zero_le _)
    have hsl := h.toSl
    obtain ⟨news, hnews⟩ : ∃ news, news = fcs (fs.drop n) := ⟨_, rfl⟩
    have s1 : Hid (news.length = (N - n) * 2) := by show _ = _; rw [hnews, fcs_length, List.length_drop, hN]
    have s2 : Hid (∀ u ∈ news, u.oneCell' = true) := by show ∀ _, _; rw [hnews]; exact fcs_oneCell _
    obtain ⟨A, hA, hsrc⟩ : ∃ A : Addr, (if cap = n then some (⟨g, 0, none⟩ : Addr) else some ⟨g, n * 2, none⟩) = some A ∧ Hid (∀ t u, news[t]? = some u → w.drew.cell? (A.add t) = some u) := by
      by_cases hcn : cap = n
      · refine ⟨⟨g, 0, none⟩, by simp [hcn], fun t u hu => ?_⟩
        have hl0 : news.length = 0 := by rw [s1.out]; omega
        rw [List.length_eq_zero_iff.1 hl0] at hu
        simp at hu
      · refine ⟨⟨g, n * 2, none⟩, by simp [hcn], fun t u hu => ?_⟩
        have ht : t < (N - n) * 2 := by
          have := (List.getElem?_eq_some_iff.1 hu).1
          rwa [s1.out] at this
        rw [hnews, fcs_drop, List.getElem?_drop] at hu
        rw [Go.WideShapes.add_plain]
        have := World.ownsRow.cellAt h (n * 2 + t) (by omega)
        show w.cell? _ = _
        rw [this, hu]
    have hroom : Hid (0 + (N - n) ≤ cap) := by show _ ≤ _; omega
    have H00 := Lib.hid h00
    have HN := Lib.hid hN
    have HNW := Lib.hid hnews
    have hnN : n ≤ N := by omega
    have hcN : N ≤ cap := by omega
    unfold maxLen at hc2
    have mixed : Try.prog.follows .mixedOrders = true := by kernel_rfl
    have hne : ¬ cap = N - n := by omega
    have hle : N - n ≤ N := by omega
    clear hsl h00 hnews hn hc1 h
    rw [hN]
    clear hN
    go_enter Try.func28, Try.ntmps28
    go_wp2_with fail
    go_region_law_o (refine step_app_fits rfl (.tmp 22) (.tmp 25) 46 rfl base 32 i0 2 sliceFld hi hz1 g 0 cap (fcs (fs.take 0)) (by simp [Act.eval, Act.put]) H00.out A (N - n) (cap - n) news (by simp [Act.eval, Act.put]) s1.out hsrc.out s2.out hroom.out ?_; intro w1 hw1 hg1; rw [Nat.zero_add] at hw1; obtain ⟨w2, hcl, hw2, hg2⟩ := run_clear_rest (P := Try.prog) w1 46 32 _ 2 sliceFld zeroFld rfl zerosFld base g (N - n) cap (N - (N - n)) _ hw1 (by omega) (by omega); have Hw2 := Lib.hid hw2; have Hg := Lib.hid (And.intro hg1 hg2); clear hw2 hg1 hg2 hw1)
    go_wp2
    go_ret
    obtain ⟨hg1, hg2⟩ := Hg.out
    refine ⟨_, rfl, ?_, From.kept, ⟨hg2.os.trans hg1.os, hg2.tape.trans hg1.tape, hg2.output.trans hg1.output, Nat.le_trans hg1.size hg2.size, fun k hk hne => (hg2.block k (Nat.lt_of_lt_of_le hk hg1.size) hne).trans (hg1.block k hk hne)⟩⟩
    have e := Hw2.out
    rw [List.take_zero, fcs_nil, List.nil_append, HNW.out] at e
    unfold RowF
    rw [List.length_drop, HN.out]
    exact e
end Go.Proofs.Ytjaedpekbkmokaa
