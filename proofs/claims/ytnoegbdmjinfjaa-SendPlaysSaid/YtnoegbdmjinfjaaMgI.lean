/-
  Several texts of mine, one behind the other: SnpRow, RestKit, SnpIns, Nil, Row0, SnpObj, SnpStr, SnpTake, SnpData, SnpPut, SnpCall, SnpIter, SnpSum.
-/
import Derived.Test.YtnoegbdmjinfjaaMgH
import Derived.Laws.OwnMore
import Derived.Shelf.RegionOpenPlain
import Derived.Deep.RegionLaw
import Derived.Sort.WalkB12
import Derived.Shelf.Spec.SlicesInsertGrow
import Derived.Test.YtnoegbdmjinfjaaProg
import Derived.WalkKit
import Derived.BigQuiet
import Derived.Deep.QuietTactic
import Derived.OwnWalkIn
import Derived.TacticsInMore
import Derived.LoopNIn
import Derived.LoopIn
import Derived.WalkMore
import Derived.Shelf.Abstract

/-
  Layer 20's program: entries by ids: cmp.Compare, the search, place, get.
-/
namespace Go.Proofs.Ytnoegbdmjinfjaa
set_option maxRecDepth 20000
open Go.RowKit

/-- an entry: a stream, the block that it lies in, its head's value, the value of the bytes that came, these, and how many of them went -/
structure Et where
  x : Sm
  p : Nat
  hv : Value
  cv : Value
  cs : List Int
  went : Nat
def enC (y : Et) : List Value := [.int .i64 y.x.id, .pointer (some ⟨y.p, 0, none⟩)]
theorem enC_len (y : Et) : (enC y).length = 2 := rfl
theorem enC_one (y : Et) : ∀ u ∈ enC y, u.oneCell' = true := by
  intro u hu
  simp only [enC, List.mem_cons, List.not_mem_nil, or_false] at hu
  rcases hu with rfl | rfl <;> rfl
/-- the ids rise -/
def Rise (ys : List Et) : Prop := ∀ (i j : Nat) (a b : Et), i < j → ys[i]? = some a → ys[j]? = some b → a.x.id < b.x.id
/-- the place of an id -/
structure PlaceAt (ys : List Et) (id : Int) (i : Nat) : Prop where
  le : i ≤ ys.length
  lo : ∀ (k : Nat) (y : Et), k < i → ys[k]? = some y → y.x.id < id
  hi : ∀ (k : Nat) (y : Et), i ≤ k → ys[k]? = some y → id ≤ y.x.id
/-- whether an id stands at a place -/
def isAt (ys : List Et) (id : Int) (i : Nat) : Bool := match ys[i]? with
  | some y => decide (y.x.id = id)
  | none => false
def cmpI (a b : Int) : Int := if a < b then -1 else if b < a then 1 else 0
theorem notNaN20 (a : Int) (w : World) : Calls Try.prog 72 #[.int .i64 a] w fun e w' => e = .returned (.bool false) ∧ w' = w := by
  go_enter Try.func72, Try.ntmps72
  go_wp2_with fail
  go_ret
  exact ⟨rfl, rfl⟩
theorem cmp20_any (a b : Int) (w : World) : Calls Try.prog 69 #[.int .i64 a, .int .i64 b] w fun e w' => e = .returned (.int .i64 (cmpI a b)) ∧ w' = w := by
  have HD := Lib.hid (show cmpI a b = if a < b then -1 else if b < a then 1 else 0 from rfl)
  by_cases h1 : a < b
  · have d1 : decide (a < b) = true := decide_eq_true h1
    rw [if_pos h1] at HD
    clear h1
    go_enter Try.func69, Try.ntmps69
    go_wp2_with fail
    refine (notNaN20 _ _).mono ?_
    rintro e w1 ⟨rfl, rfl⟩
    go_wp2_with fail
    refine (notNaN20 _ _).mono ?_
    rintro e w1 ⟨rfl, rfl⟩
    go_wp2_with fail
    go_ret
    exact ⟨by rw [HD.out]; rfl, rfl⟩
  · have d1 : decide (a < b) = false := decide_eq_false h1
    rw [if_neg h1] at HD
    by_cases h2 : b < a
    · have d2 : decide (b < a) = true := decide_eq_true h2
      rw [if_pos h2] at HD
      clear h1 h2
      go_enter Try.func69, Try.ntmps69
      go_wp2_with fail
      refine (notNaN20 _ _).mono ?_
      rintro e w1 ⟨rfl, rfl⟩
      go_wp2_with fail
      refine (notNaN20 _ _).mono ?_
      rintro e w1 ⟨rfl, rfl⟩
      go_wp2_with fail
      go_ret
      exact ⟨by rw [HD.out]; rfl, rfl⟩
    · have d2 : decide (b < a) = false := decide_eq_false h2
      rw [if_neg h2] at HD
      clear h1 h2
      go_enter Try.func69, Try.ntmps69
      go_wp2_with fail
      refine (notNaN20 _ _).mono ?_
      rintro e w1 ⟨rfl, rfl⟩
      go_wp2_with fail
      refine (notNaN20 _ _).mono ?_
      rintro e w1 ⟨rfl, rfl⟩
      go_wp2_with fail
      go_ret
      exact ⟨by rw [HD.out]; rfl, rfl⟩
theorem cmpE20_any (a b : Int) (p : Nat) (w : World) : Calls Try.prog 68 #[.agg #[.int .i64 a, .pointer (some ⟨p, 0, none⟩)], .int .i64 b] w fun e w' => e = .returned (.int .i64 (cmpI a b)) ∧ Below w.heap.size w w' := by
  go_enter Try.func68, Try.ntmps68
  go_wp2_with fail
  refine (cmp20_any _ _ _).mono ?_
  rintro e w1 ⟨rfl, rfl⟩
  go_wp2_with fail
  go_ret
  exact ⟨rfl, (Below.refl _ _).alloc (Nat.le_refl _) _⟩
theorem cmpI_lt {a b : Int} (h : a < b) : cmpI a b = -1 := if_pos h
theorem cmpI_eq {a b : Int} (h : a = b) : cmpI a b = 0 := by unfold cmpI; rw [if_neg (by omega), if_neg (by omega)]
theorem cmpI_gt {a b : Int} (h : b < a) : cmpI a b = 1 := by unfold cmpI; rw [if_neg (by omega), if_pos h]
set_option maxHeartbeats 2000000 in
theorem search20_any (id : Int) (ys : List Et) (v : Value) (w : World) (h : SlC enC 2 w v ys) (hr : Rise ys) (hl : ys.length ≤ 1000000) :
    Calls Try.prog 67 #[v, .int .i64 id, .func (.func 68) #[] #[]] w fun e w' =>
      ∃ i : Nat, e = .returned (.tuple #[.int .i64 i, .bool (isAt ys id i)]) ∧ PlaceAt ys id i ∧ Below w.heap.size w w' := by
  obtain ⟨al, cl, elv, hc1, hc2⟩ := h.shape
  unfold maxLen at hc2
  obtain ⟨N, hN⟩ : ∃ N, ys.length = N := ⟨_, rfl⟩
  rw [hN] at elv hc1 hl
  subst elv
  have HN := Lib.hid hN
  have HS := Lib.hid h
  have HR := Lib.hid hr
  clear hN h hr
  go_enter Try.func67, Try.ntmps67
  go_wp2_with fail
  go_loopg [9, 10] N (fun q' s9 s10 wr => ∃ i j : Nat, i + q' = j ∧ s9 = .int .i64 i ∧ s10 = .int .i64 j ∧ Hid (j ≤ N ∧ Below w.heap.size w wr ∧ (∀ (k : Nat) (y : Et), k < i → ys[k]? = some y → y.x.id < id) ∧ (∀ (k : Nat) (y : Et), j ≤ k → ys[k]? = some y → id ≤ y.x.id)))
  case atStart => exact ⟨0, N, by omega, rfl, rfl, Lib.hid ⟨Nat.le_refl _, Below.refl _ _, fun k y hk => by omega, fun k y hk hy => by have := (List.getElem?_eq_some_iff.1 hy).1; have := HN.out; omega⟩⟩
  case round =>
    obtain ⟨i, j, hij, rfl, rfl, HP⟩ := hrel
    have HIJ := Lib.hid hij
    have hj := HP.out.1
    have hi : i ≤ j := by omega
    clear hij
    by_cases hlt : i < j
    · obtain ⟨m, hm⟩ : ∃ m, (i + j) / 2 = m := ⟨_, rfl⟩
      have hm1 : i ≤ m := by omega
      have hm2 : m < j := by omega
      have hmN : m < N := by omega
      obtain ⟨y, hy⟩ : ∃ y, ys[m]? = some y := ⟨ys[m]'(by rw [HN.out]; exact hmN), List.getElem?_eq_getElem (by rw [HN.out]; exact hmN)⟩
      obtain ⟨b, off, rfl, hbl, hcell⟩ := (HS.out.below HP.out.2.1).at_ (i := m) (by rw [HN.out]; exact hmN)
      have c0 := hcell y hy 0 (by omega)
      have c1 := hcell y hy 1 (by omega)
      simp only [enC, List.getElem?_cons_zero, List.getElem?_cons_succ, Nat.add_zero] at c0 c1
      have HY := Lib.hid hy
      have hsum : ((i : Int) + (j : Int)) / 2 = (m : Int) := by omega
      clear hcell hy
      go_wp2_with fail
      refine (cmpE20_any _ _ _ _).mono ?_
      rintro e w1 ⟨rfl, hb1⟩
      have HB1 := Lib.hid (HP.out.2.1.trans (hb1.mono HP.out.2.1.size))
      clear c0 c1 hsum hb1
      by_cases hc : y.x.id < id
      · rw [cmpI_lt hc]
        have HC := Lib.hid hc
        clear hc
        go_wp2_with fail
        go_roundg (j - (m + 1))
        case measure => have := HIJ.out; omega
        case rel => exact ⟨m + 1, j, by omega, by go_num, rfl, Lib.hid ⟨hj, HB1.out, fun k z hk hz => by
          by_cases e : k = m
          · subst e; rw [HY.out] at hz; cases hz; exact HC.out
          · have := HR.out k m z y (by omega) hz HY.out
            have := HC.out
            omega, HP.out.2.2.2⟩⟩
      · have hd : cmpI y.x.id id = 0 ∨ cmpI y.x.id id = 1 := by
          by_cases e : y.x.id = id
          · exact .inl (cmpI_eq e)
          · exact .inr (cmpI_gt (by omega))
        have HC := Lib.hid hc
        obtain ⟨c, hce⟩ : ∃ c, cmpI y.x.id id = c := ⟨_, rfl⟩
        rw [hce] at hd ⊢
        have hc0 : decide (c < 0) = false := decide_eq_false (by omega)
        clear hc hce hd
        go_wp2_with fail
        go_roundg (m - i)
        case measure => have := HIJ.out; omega
        case rel => exact ⟨i, m, by omega, rfl, rfl, Lib.hid ⟨by omega, HB1.out, HP.out.2.2.1, fun k z hk hz => by
          have := HC.out
          by_cases e : k = m
          · subst e; rw [HY.out] at hz; cases hz; omega
          · have := HR.out m k y z (by omega) HY.out hz
            omega⟩⟩
    · obtain rfl : i = j := by omega
      have HQ := Lib.hid (show PlaceAt ys id i from ⟨by rw [HN.out]; exact hj, HP.out.2.2.1, HP.out.2.2.2⟩)
      have HB := Lib.hid HP.out.2.1
      clear hlt hi
      by_cases hiN : i < N
      · obtain ⟨y, hy⟩ : ∃ y, ys[i]? = some y := ⟨ys[i]'(by rw [HN.out]; exact hiN), List.getElem?_eq_getElem (by rw [HN.out]; exact hiN)⟩
        obtain ⟨b, off, rfl, hbl, hcell⟩ := (HS.out.below HP.out.2.1).at_ (i := i) (by rw [HN.out]; exact hiN)
        have c0 := hcell y hy 0 (by omega)
        have c1 := hcell y hy 1 (by omega)
        simp only [enC, List.getElem?_cons_zero, List.getElem?_cons_succ, Nat.add_zero] at c0 c1
        have HI := Lib.hid (show isAt ys id i = decide (y.x.id = id) by unfold isAt; rw [hy])
        have hge := HP.out.2.2.2 i y (Nat.le_refl _) hy
        clear hcell hy HP HIJ
        by_cases he : y.x.id = id
        · have HC := Lib.hid (And.intro (cmpI_eq he) (show isAt ys id i = true by rw [HI.out]; exact decide_eq_true he))
          clear he hge
          go_wp2_with fail
          refine (cmpE20_any _ _ _ _).mono ?_
          rintro e w1 ⟨rfl, hb1⟩
          rw [HC.out.1]
          have HB1 := Lib.hid (HB.out.trans (hb1.mono HB.out.size))
          clear c0 c1 hb1
          go_wp2_with fail
          go_ret2
          exact ⟨i, by rw [HC.out.2]; rfl, HQ.out, HB1.out⟩
        · have HC := Lib.hid (And.intro (cmpI_gt (show id < y.x.id by omega)) (show isAt ys id i = false by rw [HI.out]; exact decide_eq_false he))
          clear he hge
          go_wp2_with fail
          refine (cmpE20_any _ _ _ _).mono ?_
          rintro e w1 ⟨rfl, hb1⟩
          rw [HC.out.1]
          have HB1 := Lib.hid (HB.out.trans (hb1.mono HB.out.size))
          clear c0 c1 hb1
          go_wp2_with fail
          go_ret2
          exact ⟨i, by rw [HC.out.2]; rfl, HQ.out, HB1.out⟩
      · have HC := Lib.hid (show isAt ys id i = false by unfold isAt; rw [List.getElem?_eq_none (by rw [HN.out]; omega)])
        clear HP HIJ
        go_wp2_with fail
        go_ret2
        exact ⟨i, by rw [HC.out]; rfl, HQ.out, HB.out⟩
theorem place20_any (id : Int) (ys : List Et) (v : Value) (w : World) (h : SlC enC 2 w v ys) (hr : Rise ys) (hl : ys.length ≤ 1000000) :
    Calls Try.prog 57 #[v, .int .i64 id] w fun e w' => ∃ i : Nat, e = .returned (.tuple #[.int .i64 i, .bool (isAt ys id i)]) ∧ PlaceAt ys id i ∧ Below w.heap.size w w' := by
  have HS := Lib.hid h
  obtain ⟨al, cl, rfl, _⟩ := h.shape
  clear h
  go_enter Try.func57, Try.ntmps57
  go_wp2_with fail
  refine (search20_any id ys _ w HS.out hr hl).mono ?_
  rintro e w1 ⟨i, rfl, hp, hb⟩
  have HP := Lib.hid (And.intro hp hb)
  clear hp hb
  go_wp2_with fail
  go_ret2
  exact ⟨i, rfl, HP.out.1, HP.out.2⟩
theorem PlaceAt.yes {ys : List Et} {id : Int} {i : Nat} (_ : PlaceAt ys id i) (hi : isAt ys id i = true) : ∃ y, ys[i]? = some y ∧ y.x.id = id := by
  unfold isAt at hi
  cases hy : ys[i]? with
  | none => rw [hy] at hi; cases hi
  | some y => rw [hy] at hi; exact ⟨y, rfl, by simpa using hi⟩
theorem PlaceAt.no {ys : List Et} {id : Int} {i : Nat} (h : PlaceAt ys id i) (hr : Rise ys) (hi : isAt ys id i = false) : ∀ y ∈ ys, y.x.id ≠ id := by
  intro y hy he
  obtain ⟨k, hk⟩ := List.getElem?_of_mem hy
  by_cases h1 : k < i
  · have := h.lo k y h1 hk; omega
  · by_cases h2 : k = i
    · subst h2; unfold isAt at hi; rw [hk] at hi; simp [he] at hi
    · have hlt : i < ys.length := by have := (List.getElem?_eq_some_iff.1 hk).1; omega
      have h3 := h.hi i ys[i] (Nat.le_refl _) (List.getElem?_eq_getElem hlt)
      have h4 := hr i k ys[i] y (by omega) (List.getElem?_eq_getElem hlt) hk
      omega
set_option maxHeartbeats 1000000 in
theorem get20_yes (id : Int) (ys : List Et) (v : Value) (w : World) (h : SlC enC 2 w v ys) (hr : Rise ys) (hl : ys.length ≤ 1000000) (k : Nat) (y : Et) (hy : ys[k]? = some y) (he : y.x.id = id) :
    Calls Try.prog 41 #[v, .int .i64 id] w fun e w' => e = .returned (.pointer (some ⟨y.p, 0, none⟩)) ∧ Below w.heap.size w w' := by
  have HS := Lib.hid h
  obtain ⟨al, cl, rfl, _⟩ := h.shape
  have HL := Lib.hid hl
  have HR := Lib.hid hr
  have HY := Lib.hid (And.intro hy he)
  clear h hl hr hy he
  go_enter Try.func41, Try.ntmps41
  go_wp2_with fail
  refine (place20_any id ys _ w HS.out HR.out HL.out).mono ?_
  rintro e w1 ⟨i, rfl, hp, hb⟩
  cases hi : isAt ys id i
  · exact absurd HY.out.2 (hp.no HR.out hi y (List.mem_of_getElem? HY.out.1))
  · obtain ⟨z, hz, hze⟩ := hp.yes hi
    obtain rfl : i = k := by
      rcases Nat.lt_trichotomy i k with e | e | e
      · have := HR.out i k z y e hz HY.out.1; have := HY.out.2; omega
      · exact e
      · have := HR.out k i y z e HY.out.1 hz; have := HY.out.2; omega
    have hlt := (List.getElem?_eq_some_iff.1 hz).1
    have hll := HL.out
    obtain ⟨b, off, rfl, hbl, hcell⟩ := (HS.out.below hb).at_ (i := i) hlt
    have c0 := hcell y HY.out.1 0 (by omega)
    have c1 := hcell y HY.out.1 1 (by omega)
    simp only [enC, List.getElem?_cons_zero, List.getElem?_cons_succ, Nat.add_zero] at c0 c1
    have HB := Lib.hid hb
    clear hp hb hi hcell hz hze
    go_wp2_with fail
    go_ret
    exact ⟨rfl, HB.out⟩
theorem get20_no (id : Int) (ys : List Et) (v : Value) (w : World) (h : SlC enC 2 w v ys) (hr : Rise ys) (hl : ys.length ≤ 1000000) (hn : ∀ y ∈ ys, y.x.id ≠ id) :
    Calls Try.prog 41 #[v, .int .i64 id] w fun e w' => e = .returned (.pointer none) ∧ Below w.heap.size w w' := by
  have HS := Lib.hid h
  obtain ⟨al, cl, rfl, _⟩ := h.shape
  have HN := Lib.hid hn
  clear h hn
  go_enter Try.func41, Try.ntmps41
  go_wp2_with fail
  refine (place20_any id ys _ w HS.out hr hl).mono ?_
  rintro e w1 ⟨i, rfl, hp, hb⟩
  cases hi : isAt ys id i
  · have HB := Lib.hid hb
    clear hp hb hi
    go_wp2_with fail
    go_ret
    exact ⟨rfl, HB.out⟩
  · obtain ⟨z, hz, hze⟩ := hp.yes hi
    exact absurd hze (HN.out z (List.mem_of_getElem? hz))
end Go.Proofs.Ytnoegbdmjinfjaa

/-
  A row's rest: cleared; 'append' that has room, in a region that draws its order. No program is named here.
-/
namespace Go.Proofs.Ytnoegbdmjinfjaa
open Go.RowKit

/-- 'clear(s)', s a row's rest -/
theorem run_clear_rest17 {P : Program} (w : World) (t e : TypeId) (z : Value) (size : Nat) (ht : P.underlying t = some (.slice e)) (hv : ∀ w, (zeroValue e).run P w = .ok z w) (hz : z.cells.size = size) (h1 : ∀ n, ∀ u ∈ (Builtin.zeroCells z.cells n).toList, u.oneCell' = true)
    (base g m cap n : Nat) (xs : List Value) (hown : w.ownsRow base e size (.slice (some ⟨g, 0, none⟩) m cap) m xs) (hn : 0 < n) (hroom : m + n ≤ cap) :
    ∃ w', (∀ ty c, (Builtin.clear_ #[t] ty #[.slice (some ⟨g, m * size, none⟩) n c]).run P w = .ok (.tuple #[]) w') ∧ w'.ownsRow base e size (.slice (some ⟨g, 0, none⟩) m cap) m xs ∧ w.grownBy w' (some g) := by
  obtain ⟨hlen, hcase⟩ := hown
  rcases hcase with ⟨h, _⟩ | ⟨g', cap', cur, h, hbg, hg, hnc, hcm, hcs, htake⟩
  · simp at h
  · simp only [Value.slice.injEq, Option.some.injEq, Addr.mk.injEq, and_true, true_and] at h
    obtain ⟨rfl, rfl⟩ := h
    have hzl : (Builtin.zeroCells z.cells n).toList.length = n * size := by simp [Builtin.zeroCells, hz]
    have hfit : m * size + 0 + (Builtin.zeroCells z.cells n).toList.length ≤ cur.size := by rw [hzl, hcs, Nat.add_zero, ← Nat.add_mul]; exact Nat.mul_le_mul_right _ hroom
    have hst := run_storeCells_at P g (m * size) e (Builtin.zeroCells z.cells n).toList 0 cur w hg hfit (h1 n)
    obtain ⟨k, rfl⟩ : ∃ k, n = k + 1 := ⟨n - 1, by omega⟩
    refine ⟨_, fun ty c => by simp only [Builtin.clear_]; simp [run_underlying ht, hv, hst]; rfl, ⟨hlen, .inr ⟨g, cap, _, rfl, hbg, setRow_heap w g cur _ e _ hg, hnc, hcm, ?_, ?_⟩⟩, ⟨rfl, rfl, rfl, by simp, fun j _ hj => setRow_other w g j _ (fun e => hj (by rw [e]))⟩⟩
    · simp only [List.size_toArray, List.length_append, List.length_take, List.length_drop, Array.length_toList]
      simp only [Array.length_toList] at hfit hzl
      omega
    · have hml : m * size ≤ cur.toList.length := by rw [Array.length_toList]; omega
      show List.take (m * size) (List.take (m * size) cur.toList ++ _) = xs
      rw [List.take_append_of_le_length (by rw [List.length_take]; omega), List.take_take, Nat.min_self, htake]
/-- 'append' that has room, as an operation of a region that draws -/
theorem step_app_fits17 {P : Program} {ops : Array Oper} {o : Oper} {a : Act} {w : World} {K : Act → World → Prop} {Q : Exit → Act → World → Prop} {E : Prop}
    (hg : o.guard = none) (s x : Operand) (t : TypeId) (hop : o.op = Op.call { callee := Callee.builtin Builtin.append, args := #[s, x], argTypes := #[t, t] })
    (base : Nat) (e : TypeId) (i : TypeInfo) (size : Nat) (ht : P.underlying t = some (.slice e)) (hi : P.info? e = some i) (hsize : i.size = size)
    (g n cap : Nat) (xs : List Value) (hs : a.eval s = .slice (some ⟨g, 0, none⟩) n cap) (hown : w.ownsRow base e size (.slice (some ⟨g, 0, none⟩) n cap) n xs)
    (ad : Addr) (m c : Nat) (news : List Value) (hx : a.eval x = .slice (some ad) m c) (hl : news.length = m * size) (hnews : ∀ j u, news[j]? = some u → w.cell? (ad.add j) = some u) (h1 : ∀ u ∈ news, u.oneCell' = true)
    (hroom : n + m ≤ cap)
    (hK : ∀ w', w'.ownsRow base e size (.slice (some ⟨g, 0, none⟩) (n + m) cap) (n + m) (xs ++ news) → w.grownBy w' (some g) → K (a.put o.dst (.slice (some ⟨g, 0, none⟩) (n + m) cap)) w') :
    if Region.wanted o (yielded ops a.tmps) = true then Oper.wp P o a w K Q else E := by
  have hw : Region.wanted o (yielded ops a.tmps) = true := by simp [Region.wanted, hg]
  rw [if_pos hw]
  obtain ⟨w', hrun, h2, h3⟩ := run_append_fits (P := P) w base t o.type e i size ht hi hsize g n cap xs hown ad m c news hl hnews h1 hroom
  unfold Oper.wp
  simp [execOp, hop, resolve, invoke, builtin, hs, hx, hrun, Result.andThen]
  exact hK _ h2 h3
end Go.Proofs.Ytnoegbdmjinfjaa

/-
  Layer 20's program: slices.Insert of one entry, slices.Delete of one.
-/
namespace Go.Proofs.Ytnoegbdmjinfjaa
set_option maxRecDepth 20000
open Go.RowKit

/-- 'append(s, x...)' asks of x's type only that it is a slice's -/
theorem append_types {P : Program} (w : World) (t t' ty e e' : TypeId) (h : P.underlying t = some (.slice e)) (h' : P.underlying t' = some (.slice e')) (a : Option Addr) (n c : Nat) (x : Value) : (Builtin.append_ #[t, t'] ty #[.slice a n c, x]).run P w = (Builtin.append_ #[t, t] ty #[.slice a n c, x]).run P w := by
  simp [Builtin.append_, run_underlying h, run_underlying h']
/-- 'copy(d, s)' into a block that is known whole, of elements of any size -/
theorem run_copyK {P : Program} (w : World) (dT sT ty elem : TypeId) (size g o dLen dCap : Nat) (a : Addr) (sLen sCap : Nat) (cur : Array Value) (t : TypeId) (cs : List Value) (k : Nat)
    (hu : P.underlying dT = some (.slice elem)) (hs : (P.info? elem).map (·.size) = some size)
    (hg : w.heap[g]? = some (.cells cur t (0, 0))) (hk : Nat.min sLen dLen = k) (hn : cs.length = k * size)
    (hsrc : ∀ j v, cs[j]? = some v → w.cell? (a.add j) = some v) (hfit : o + cs.length ≤ cur.size) (h1 : ∀ v ∈ cs, v.oneCell' = true) :
    (Builtin.copy_ #[dT, sT] ty #[.slice (some ⟨g, o, none⟩) dLen dCap, .slice (some a) sLen sCap]).run P w =
      .ok (goInt k) (w.setRow g (cur.toList.take o ++ cs ++ cur.toList.drop (o + cs.length)).toArray) := by
  have hl := run_loadCells_list (P := P) w a cs hsrc
  have hst := run_storeCells_at P g o t cs 0 cur w hg (by simpa using hfit) h1
  cases hq : P.info? elem with
  | none => simp [hq] at hs
  | some i =>
    have hi : i.size = size := by simpa [hq] using hs
    rw [hn] at hl
    have hk' : sLen.min dLen = k := hk
    simp [Builtin.copy_, run_underlying hu, Builtin.lenOf, Builtin.firstCells, sizeOf, typeInfo, hq, hi, hk', hl, hst]
theorem Try.infoEn20 : (Try.prog.info? 93).map (fun i => (i.zero, i.size, i.bytes)) = some (some (.agg #[.int .i64 0, .pointer none]), 2, 16) := by kernel_rfl
theorem enC_flat_one (ys : List Et) : ∀ u ∈ flatC enC ys, u.oneCell' = true := by
  intro u hu
  simp only [flatC, List.mem_flatMap] at hu
  obtain ⟨y, _, hu⟩ := hu
  exact enC_one y u hu
set_option maxHeartbeats 2000000 in
theorem insert20_end (v : Value) (ys : List Et) (y : Et) (vb : Nat) (w : World) (h : RowC enC 2 w 0 93 v ys) (hb : w.heap[vb]? = some (.cells (enC y).toArray 93 (0, 0))) (hl : ys.length ≤ 1000000) :
    Calls Try.prog 58 #[v, .int .i64 ys.length, .slice (some ⟨vb, 0, none⟩) 1 1] w fun e w' =>
      ∃ v', e = .returned v' ∧ RowC enC 2 w' 0 93 v' (ys ++ [y]) ∧ w.grownBy w' v.ownBlock ∧ (v'.ownBlock = v.ownBlock ∨ v'.ownBlock = some w.heap.size) := by
  obtain ⟨al, cl, rfl⟩ := h.shape
  obtain ⟨i0, hi, hz0, hz1, hz2⟩ := info_parts Try.infoEn20
  have hap : ∀ ty, ∃ v' w', (Builtin.append_ #[59, 58] ty #[.slice al ys.length cl, .slice (some ⟨vb, 0, none⟩) 1 1]).run Try.prog w = .ok v' w' ∧ RowC enC 2 w' 0 93 v' (ys ++ [y]) ∧ w.grownBy w' (Value.slice al ys.length cl).ownBlock ∧ (v'.ownBlock = (Value.slice al ys.length cl).ownBlock ∨ v'.ownBlock = some w.heap.size) := fun ty => by
    obtain ⟨v', w', h1, h2, h3, _, h4⟩ := run_append_own_at (P := Try.prog) (w := w) 0 59 ty 93 i0 _ 2 16 Try.underlying59 hi hz0 hz1 hz2 rfl (by decide) _ ys.length (flatC enC ys) h ⟨vb, 0, none⟩ 1 1 (flatC enC [y]) rfl (one_at hb) (enC_flat_one _) (by unfold maxLen; omega) (by omega) (Nat.zero_le _)
    refine ⟨v', w', (append_types w _ _ _ _ _ Try.underlying59 Try.underlying58 _ _ _ _).trans h1, ?_, h3, h4⟩
    unfold RowC
    rw [List.length_append, flatC_append]
    exact h2
  obtain ⟨N, hN⟩ : ∃ N, ys.length = N := ⟨_, rfl⟩
  have hcl : N ≤ cl := by
    rcases h.2 with ⟨e, _⟩ | ⟨g, cap, cur, e, _, _, h5, _⟩
    · simp only [Value.slice.injEq] at e; omega
    · simp only [Value.slice.injEq] at e; omega
  rw [hN] at h hap hl ⊢
  clear h hN
  by_cases hcn : cl = N
  · subst hcn
    go_enter Try.func58, Try.ntmps58
    go_wp2_with (at_builtin; obtain ⟨v', w', hrun, hv'⟩ := hap _; refine Lib.wpList_append_run _ rfl _ _ _ _ rfl _ _ rfl rfl _ _ hrun ?_; have HV := Lib.hid hv'; clear hv' hrun hap)
    go_ret
    exact ⟨v', rfl, HV.out⟩
  · have hcn2 : ¬ N = cl := fun e => hcn e.symm
    go_enter Try.func58, Try.ntmps58
    go_wp2_with (at_builtin; obtain ⟨v', w', hrun, hv'⟩ := hap _; refine Lib.wpList_append_run _ rfl _ _ _ _ rfl _ _ rfl rfl _ _ hrun ?_; have HV := Lib.hid hv'; clear hv' hrun hap)
    go_ret
    exact ⟨v', rfl, HV.out⟩
/-- a row's first elements, as a row -/
theorem row_first {w : World} {g cap n m : Nat} {e : TypeId} {size : Nat} {xs zs : List Value} (h : w.ownsRow 0 e size (.slice (some ⟨g, 0, none⟩) n cap) n (xs ++ zs)) (hx : xs.length = m * size) (hm : m ≤ n) : w.ownsRow 0 e size (.slice (some ⟨g, 0, none⟩) m cap) m xs := by
  obtain ⟨h1, h2⟩ := h
  refine ⟨hx, .inr ?_⟩
  rcases h2 with ⟨h, _⟩ | ⟨g', cap', cur, h, hbg, hg, hnc, hcm, hcs, htake⟩
  · simp at h
  · simp only [Value.slice.injEq, Option.some.injEq, Addr.mk.injEq, and_true, true_and] at h
    obtain ⟨rfl, rfl⟩ := h
    refine ⟨g, cap, cur, rfl, hbg, hg, by omega, hcm, hcs, ?_⟩
    have h3 : m * size ≤ n * size := Nat.mul_le_mul_right _ hm
    have h4 := congrArg (List.take (m * size)) htake
    rw [List.take_take, Nat.min_eq_left h3, ← hx, List.take_left] at h4
    rw [← hx]; exact h4
theorem zeroEn20 (w : World) : (zeroValue 93).run Try.prog w = .ok (.agg #[.int .i64 0, .pointer none]) w := by kernel_rfl
theorem zerosEn20 (n : Nat) : ∀ u ∈ (Builtin.zeroCells (Value.agg #[.int .i64 0, .pointer none]).cells n).toList, u.oneCell' = true := by
  intro u hu
  simp only [Builtin.zeroCells, Array.mem_toList_iff, Array.mem_map] at hu
  obtain ⟨i, _, rfl⟩ := hu
  have h2 : (Value.agg #[.int .i64 0, .pointer none]).cells.size = 2 := rfl
  rw [h2]
  rcases (by omega : i % 2 = 0 ∨ i % 2 = 1) with h | h <;> rw [h] <;> rfl
set_option maxHeartbeats 4000000 in
/-- slices.Delete of one entry -/
theorem delete20_any (g cap i : Nat) (ys : List Et) (w : World) (h : RowC enC 2 w 0 93 (.slice (some ⟨g, 0, none⟩) ys.length cap) ys) (hi : i < ys.length) :
    Calls Try.prog 64 #[.slice (some ⟨g, 0, none⟩) ys.length cap, .int .i64 i, .int .i64 ((i : Int) + 1)] w fun e w' =>
      ∃ v', e = .returned v' ∧ v'.ownBlock = some g ∧ RowC enC 2 w' 0 93 v' (ys.take i ++ ys.drop (i + 1)) ∧ w.grownBy w' (some g) := by
  obtain ⟨i0, hi0, hz0, hz1, hz2⟩ := info_parts Try.infoEn20
  obtain ⟨hc1, hc2⟩ : ys.length ≤ cap ∧ cap ≤ maxLen := by
    rcases h.2 with ⟨h, _⟩ | ⟨g', cap', cur, h, hbg, hg, hnc, hcm, hcs, htake⟩
    · simp at h
    · simp only [Value.slice.injEq, Option.some.injEq, Addr.mk.injEq, and_true, true_and] at h
      obtain ⟨rfl, rfl⟩ := h
      exact ⟨hnc, hcm⟩
  have hflat : flatC enC ys = flatC enC (ys.take i) ++ flatC enC (ys.drop i) := by rw [← flatC_append, List.take_append_drop]
  have h00 : w.ownsRow 0 93 2 (.slice (some ⟨g, 0, none⟩) i cap) i (flatC enC (ys.take i)) := by
    refine row_first (n := ys.length) (zs := flatC enC (ys.drop i)) ?_ (by rw [flatC_length enC_len, List.length_take]; congr 1; omega) (by omega)
    rw [← hflat]; exact h
  obtain ⟨N, hN⟩ : ∃ N, ys.length = N := ⟨_, rfl⟩
  obtain ⟨M, hM⟩ : ∃ M, N - (i + 1) = M := ⟨_, rfl⟩
  obtain ⟨news, hnews⟩ : ∃ news, news = flatC enC (ys.drop (i + 1)) := ⟨_, rfl⟩
  obtain ⟨olds, holds⟩ : ∃ olds, olds = flatC enC (ys.take i) := ⟨_, rfl⟩
  rw [← holds] at h00
  have s1 : Hid (news.length = M * 2) := by show _ = _; rw [hnews, flatC_length enC_len, List.length_drop, hN, hM]
  have s2 : Hid (∀ u ∈ news, u.oneCell' = true) := by show ∀ _, _; rw [hnews]; exact enC_flat_one _
  obtain ⟨A, hA, hsrc⟩ : ∃ A : Addr, (if cap = i + 1 then some (⟨g, 0, none⟩ : Addr) else some ⟨g, (i + 1) * 2, none⟩) = some A ∧ Hid (∀ t u, news[t]? = some u → w.drew.cell? (A.add t) = some u) := by
    by_cases hcn : cap = i + 1
    · refine ⟨⟨g, 0, none⟩, by simp [hcn], fun t u hu => ?_⟩
      have hl0 : news.length = 0 := by rw [s1.out]; omega
      rw [List.length_eq_zero_iff.1 hl0] at hu
      simp at hu
    · refine ⟨⟨g, (i + 1) * 2, none⟩, by simp [hcn], fun t u hu => ?_⟩
      have ht : t < M * 2 := by
        have := (List.getElem?_eq_some_iff.1 hu).1
        rwa [s1.out] at this
      have hd : flatC enC ys = flatC enC (ys.take (i + 1)) ++ flatC enC (ys.drop (i + 1)) := by rw [← flatC_append, List.take_append_drop]
      have hl1 : (flatC enC (ys.take (i + 1))).length = (i + 1) * 2 := by rw [flatC_length enC_len, List.length_take]; congr 1; omega
      have hq : (flatC enC ys)[(i + 1) * 2 + t]? = some u := by
        rw [hd, List.getElem?_append_right (by omega), hl1, Nat.add_sub_cancel_left, ← hnews]; exact hu
      rw [Go.WideShapes.add_plain]
      have := World.ownsRow.cellAt h ((i + 1) * 2 + t) (by omega)
      show w.cell? _ = _
      rw [this, hq]
  have hroom : Hid (i + M ≤ cap) := by show _ ≤ _; omega
  have H00 := Lib.hid h00
  have HNW := Lib.hid (And.intro hnews holds)
  have HNM := Lib.hid (show i + M = N - 1 ∧ (ys.take i ++ ys.drop (i + 1)).length = N - 1 by rw [List.length_append, List.length_take, List.length_drop]; omega)
  have hnN : i + 1 ≤ N := by omega
  have hcN : N ≤ cap := by omega
  unfold maxLen at hc2
  have mixed : Try.prog.follows .mixedOrders = true := by kernel_rfl
  have hne : ¬ cap = i + M := by omega
  have hle : i + M ≤ N := by omega
  have hic : i ≤ cap := by omega
  have hic1 : i + 1 ≤ cap := by omega
  have hnI : ((i : Int) + 1) ≤ (N : Int) := by omega
  have htn : ((i : Int) + 1).toNat = i + 1 := by omega
  have h0n : (0 : Int) ≤ (i : Int) + 1 := by omega
  rw [hN] at hi ⊢
  clear h00 hnews holds hc1 h hN hflat
  go_enter Try.func64, Try.ntmps64
  go_wp2_with fail
  go_region_law_o (refine step_app_fits17 rfl (.tmp 22) (.tmp 25) 59 rfl 0 93 i0 2 Try.underlying59 hi0 hz1 g i cap olds (by simp [Act.eval, Act.put]) H00.out A M (cap - (i + 1)) news (by simp [Act.eval, Act.put]) s1.out hsrc.out s2.out hroom.out ?_; intro w1 hw1 hg1; obtain ⟨w2, hcl, hw2, hg2⟩ := run_clear_rest17 (P := Try.prog) w1 59 93 _ 2 Try.underlying59 zeroEn20 rfl zerosEn20 0 g (i + M) cap (N - (i + M)) _ hw1 (by omega) (by omega); have Hw2 := Lib.hid hw2; have Hg := Lib.hid (And.intro hg1 hg2); clear hw2 hg1 hg2 hw1)
  go_wp2
  go_ret
  obtain ⟨hg1, hg2⟩ := Hg.out
  have e := Hw2.out
  refine ⟨_, rfl, rfl, ?_, ⟨hg2.os.trans hg1.os, hg2.tape.trans hg1.tape, hg2.output.trans hg1.output, Nat.le_trans hg1.size hg2.size, fun k hk hne => (hg2.block k (Nat.lt_of_lt_of_le hk hg1.size) hne).trans (hg1.block k hk hne)⟩⟩
  unfold RowC
  rw [HNM.out.2, ← HNM.out.1, flatC_append, ← HNW.out.1, ← HNW.out.2]
  exact e
theorem overlaps20 (vb g o : Nat) (cs : Array Value) (cur : Array Value) (w : World) (hb : w.heap[vb]? = some (.cells cs 93 (0, 0))) (hg : w.heap[g]? = some (.cells cur 93 (0, 0))) (hne : vb ≠ g) (hcur : cur.size ≠ 0) (lb cb : Nat) :
    (callFunc 70 #[.slice (some ⟨vb, 0, none⟩) 1 1, .slice (some ⟨g, o, none⟩) lb cb]).run Try.prog w = .ok (.value (.bool false)) w := by
  refine (run_callFunc_extern Try.func70 (by kernel_rfl) (by kernel_rfl) (by kernel_rfl) (e := Extern.SlicesOverlaps.overlaps #[58, 58] #[4]) (by kernel_rfl) _ _).trans ?_
  rw [Lib.run_overlaps_apart w 58 4 93 Try.underlying58 2 (fun w => by kernel_rfl) ⟨vb, 0, none⟩ ⟨g, o, none⟩ 1 1 lb cb hne 93 93 cs.size cur.size (by simp [World.shape?, hb]) (by simp [World.shape?, hg]) hcur (blk_free hb) (blk_free hb)]
  rfl
theorem splice20 {ys : List Et} {y : Et} {i N : Nat} {cur : List Value} {rest : List Value} (hN : ys.length = N) (hi : i < N) (hc : cur = flatC enC ys ++ rest) (hr : 2 ≤ rest.length) :
    ∃ rest', rest'.length = rest.length - 2 ∧ (cur.take ((i + 1) * 2) ++ flatC enC (ys.drop i) ++ cur.drop ((i + 1) * 2 + (flatC enC (ys.drop i)).length)).take (i * 2) ++ enC y ++ (cur.take ((i + 1) * 2) ++ flatC enC (ys.drop i) ++ cur.drop ((i + 1) * 2 + (flatC enC (ys.drop i)).length)).drop (i * 2 + (enC y).length) = flatC enC (ys.take i ++ y :: ys.drop i) ++ rest' := by
  have hl : (flatC enC ys).length = N * 2 := by rw [flatC_length enC_len, hN]
  have hl1 : (flatC enC (ys.take i)).length = i * 2 := by rw [flatC_length enC_len, List.length_take]; congr 1; omega
  have hl2 : (flatC enC (ys.drop i)).length = (N - i) * 2 := by rw [flatC_length enC_len, List.length_drop, hN]
  have hf : flatC enC ys = flatC enC (ys.take i) ++ flatC enC (ys.drop i) := by rw [← flatC_append, List.take_append_drop]
  have hcl : cur.length = N * 2 + rest.length := by rw [hc, List.length_append, hl]
  refine ⟨rest.drop 2, by rw [List.length_drop], ?_⟩
  have e1 : (cur.take ((i + 1) * 2)).take (i * 2) = flatC enC (ys.take i) := by
    rw [List.take_take, Nat.min_eq_left (by omega), hc, hf, List.append_assoc, ← hl1, List.take_left]
  have e2 : cur.drop ((i + 1) * 2 + (flatC enC (ys.drop i)).length) = rest.drop 2 := by
    rw [hl2, show (i + 1) * 2 + (N - i) * 2 = N * 2 + 2 by omega, ← List.drop_drop, hc, ← hl, List.drop_left]
  rw [e2, List.append_assoc (cur.take _), List.take_append_of_le_length (by rw [List.length_take]; omega), e1]
  have e3 : (cur.take ((i + 1) * 2) ++ (flatC enC (ys.drop i) ++ rest.drop 2)).drop (i * 2 + (enC y).length) = flatC enC (ys.drop i) ++ rest.drop 2 := by
    rw [enC_len, show i * 2 + 2 = (cur.take ((i + 1) * 2)).length by rw [List.length_take]; omega, List.drop_left]
  rw [e3, flatC_append]
  simp [flatC, List.append_assoc]
set_option maxHeartbeats 4000000 in
theorem insert20_room (g cap i : Nat) (ys : List Et) (y : Et) (vb : Nat) (w : World) (h : RowC enC 2 w 0 93 (.slice (some ⟨g, 0, none⟩) ys.length cap) ys) (hb : w.heap[vb]? = some (.cells (enC y).toArray 93 (0, 0))) (hi : i < ys.length) (hroom : ys.length + 1 ≤ cap) (hne : vb ≠ g) :
    Calls Try.prog 58 #[.slice (some ⟨g, 0, none⟩) ys.length cap, .int .i64 i, .slice (some ⟨vb, 0, none⟩) 1 1] w fun e w' =>
      ∃ v', e = .returned v' ∧ RowC enC 2 w' 0 93 v' (ys.take i ++ y :: ys.drop i) ∧ w.grownBy w' (some g) ∧ v'.ownBlock = some g := by
  obtain ⟨cur, hg, hcm, hcs, htake⟩ : ∃ cur : Array Value, w.heap[g]? = some (.cells cur 93 (0, 0)) ∧ cap ≤ maxLen ∧ cur.size = cap * 2 ∧ cur.toList.take (ys.length * 2) = flatC enC ys := by
    rcases h.2 with ⟨h, _⟩ | ⟨g', cap', cur, h, hbg, hg, hnc, hcm, hcs, htake⟩
    · simp at h
    · simp only [Value.slice.injEq, Option.some.injEq, Addr.mk.injEq, and_true, true_and] at h
      obtain ⟨rfl, rfl⟩ := h
      exact ⟨cur, hg, hcm, hcs, htake⟩
  obtain ⟨N, hN⟩ : ∃ N, ys.length = N := ⟨_, rfl⟩
  have h' : w.ownsRow 0 93 2 (.slice (some ⟨g, 0, none⟩) ys.length cap) ys.length (flatC enC ys) := h
  rw [hN] at hi hroom htake h' ⊢
  have hfl : (flatC enC ys).length = N * 2 := by rw [flatC_length enC_len, hN]
  have hcells : ∀ j u, (flatC enC ys)[j]? = some u → w.cell? ⟨g, j, none⟩ = some u := fun j u hj => by
    have hjl : j < N * 2 := by have := (List.getElem?_eq_some_iff.1 hj).1; omega
    have := World.ownsRow.cellAt h' j (by omega)
    rw [this, hj]
  have hdl : (flatC enC (ys.drop i)).length = (N - i) * 2 := by rw [flatC_length enC_len, List.length_drop, hN]
  have hdr : ∀ j u, (flatC enC (ys.drop i))[j]? = some u → (flatC enC ys)[i * 2 + j]? = some u := fun j u hj => by
    have e : flatC enC ys = flatC enC (ys.take i) ++ flatC enC (ys.drop i) := by rw [← flatC_append, List.take_append_drop]
    have hl1 : (flatC enC (ys.take i)).length = i * 2 := by rw [flatC_length enC_len, List.length_take]; congr 1; omega
    rw [e, List.getElem?_append_right (by omega), hl1, Nat.add_sub_cancel_left]; exact hj
  have hov := fun lb cb => overlaps20 vb g ((i + 1) * 2) (enC y).toArray cur w hb hg hne (by omega) lb cb
  obtain ⟨X1, hX1⟩ : ∃ X1, X1 = (cur.toList.take ((i + 1) * 2) ++ flatC enC (ys.drop i) ++ cur.toList.drop ((i + 1) * 2 + (flatC enC (ys.drop i)).length)) := ⟨_, rfl⟩
  have hX1l : X1.length = cap * 2 := by
    rw [hX1]; simp only [List.length_append, List.length_take, List.length_drop, Array.length_toList, hdl, hcs]; omega
  have hcp1 : ∀ ty dc sc, (Builtin.copy_ #[59, 59] ty #[.slice (some ⟨g, (i + 1) * 2, none⟩) (N - i) dc, .slice (some ⟨g, i * 2, none⟩) (N + 1 - i) sc]).run Try.prog w.drew = .ok (goInt ((N - i : Nat) : Int)) (w.drew.setRow g X1.toArray) := fun ty dc sc => by
    rw [hX1]
    exact run_copyK w.drew _ _ ty 93 2 g ((i + 1) * 2) (N - i) dc ⟨g, i * 2, none⟩ (N + 1 - i) sc cur 93 (flatC enC (ys.drop i)) (N - i) Try.underlying59 (by kernel_rfl) hg (by simp only [Nat.min_def]; split <;> omega) hdl (fun j u hj => by rw [Go.WideShapes.add_plain]; exact hcells _ u (hdr j u hj)) (by omega) (enC_flat_one _)
  obtain ⟨X2, hX2⟩ : ∃ X2, X2 = (X1.take (i * 2) ++ enC y ++ X1.drop (i * 2 + (enC y).length)) := ⟨_, rfl⟩
  have hg2 : (w.drew.setRow g X1.toArray).heap[g]? = some (.cells X1.toArray 93 (0, 0)) := setRow_heap w.drew g cur _ _ _ hg
  have hb2 : (w.drew.setRow g X1.toArray).heap[vb]? = some (.cells (enC y).toArray 93 (0, 0)) := (setRow_other w.drew g vb _ (fun e => hne e)).trans hb
  have hcp2 : ∀ ty dc, (Builtin.copy_ #[59, 58] ty #[.slice (some ⟨g, i * 2, none⟩) (N + 1 - i) dc, .slice (some ⟨vb, 0, none⟩) 1 1]).run Try.prog (w.drew.setRow g X1.toArray) = .ok (goInt 1) ((w.drew.setRow g X1.toArray).setRow g X2.toArray) := fun ty dc => by
    rw [hX2]
    exact run_copyK (w.drew.setRow g X1.toArray) _ _ ty 93 2 g (i * 2) (N + 1 - i) dc ⟨vb, 0, none⟩ 1 1 X1.toArray 93 (enC y) 1 Try.underlying59 (by kernel_rfl) hg2 (by simp only [Nat.min_def]; split <;> omega) rfl (fun j u hj => by rw [Go.WideShapes.add_plain, Nat.zero_add]; exact blk_cell hb2 (by simpa using hj)) (by simp only [List.size_toArray, hX1l, enC_len]; omega) (enC_one _)
  obtain ⟨rest, hrest⟩ : ∃ rest, cur.toList = flatC enC ys ++ rest := ⟨cur.toList.drop (N * 2), by rw [← htake, List.take_append_drop]⟩
  have hrl : rest.length = cap * 2 - N * 2 := by
    have := congrArg List.length hrest
    rw [List.length_append, hfl, Array.length_toList, hcs] at this
    omega
  obtain ⟨rest', hr1, hr2⟩ := splice20 (y := y) hN hi hrest (by omega)
  rw [← hX1, ← hX2] at hr2
  have hX2l : X2.length = cap * 2 := by
    rw [hr2, List.length_append, flatC_length enC_len, List.length_append, List.length_take, List.length_cons, List.length_drop]; omega
  have hnl : (ys.take i ++ y :: ys.drop i).length = N + 1 := by rw [List.length_append, List.length_take, List.length_cons, List.length_drop]; omega
  have HEnd := Lib.hid (show RowC enC 2 ((w.drew.setRow g X1.toArray).setRow g X2.toArray) 0 93 (.slice (some ⟨g, 0, none⟩) (N + 1) cap) (ys.take i ++ y :: ys.drop i) ∧ w.grownBy ((w.drew.setRow g X1.toArray).setRow g X2.toArray) (some g) from by
    refine ⟨?_, ⟨rfl, rfl, rfl, by simp, fun j _ hj => (setRow_other _ g j _ (fun e => hj (by rw [e]))).trans (setRow_other w.drew g j _ (fun e => hj (by rw [e])))⟩⟩
    unfold RowC
    rw [hnl]
    refine ⟨by rw [flatC_length enC_len, hnl], .inr ⟨g, cap, X2.toArray, rfl, Nat.zero_le _, setRow_heap _ g X1.toArray _ _ _ hg2, by omega, hcm, by simp [hX2l], ?_⟩⟩
    have hl3 : (flatC enC (ys.take i ++ y :: ys.drop i)).length = (N + 1) * 2 := by rw [flatC_length enC_len, hnl]
    show List.take _ X2 = _
    rw [hr2, ← hl3, List.take_left])
  unfold maxLen at hcm
  have hz1 : ¬ ((i : Int) = (N : Int)) := by omega
  have hb1 : (0 : Int) ≤ (i : Int) + 1 := by omega
  have htn : ((i : Int) + 1).toNat = i + 1 := by omega
  have htn2 : ((N : Int) + 1).toNat = N + 1 := by omega
  have hb1n : (0 : Int) ≤ (N : Int) + 1 := by omega
  have hw1 : IntKind.i64.wrap ((i : Int) + 1) = (i : Int) + 1 := by rw [IntKind.wrap_i64]; omega
  have hbn2 : ¬ (cap = i + 1) := by omega
  have hb3 : (i : Int) ≤ (N : Int) + 1 := by omega
  have hb4 : ¬ (cap = i) := by omega
  have hb5 : ¬ ((cap : Int) < (N : Int) + 1) := by omega
  have hb6 : (N : Int) + 1 ≤ (cap : Int) := by omega
  have hb7 : (i : Int) + 1 ≤ (N : Int) + 1 := by omega
  have hin : i ≤ N := by omega
  have hin1 : i + 1 ≤ N + 1 := by omega
  have hsub : N + 1 - (i + 1) = N - i := by omega
  have mixed : Try.prog.follows .mixedOrders = true := by kernel_rfl
  clear h h' hb hX1 hX2 hrest hr2 hcells hdr hg2 hb2 htake hnl hX1l hX2l hg hcs hrl hr1 hfl hdl
  go_enter Try.func58, Try.ntmps58
  go_wp2_with (simp only [hov])
  go_region_law_o (refine step_copy_runI rfl _ _ 59 59 rfl (.slice (some ⟨g, (i + 1) * 2, none⟩) (N - i) (cap - (i + 1))) (.slice (some ⟨g, i * 2, none⟩) (N + 1 - i) (cap - i)) (by simp [Act.eval, Act.put]) (by simp [Act.eval, Act.put]) (hcp1 _ _ _) ?_)
  go_wp2_with (at_builtin; refine wpList_copy_runI _ rfl _ _ 59 58 rfl _ _ rfl rfl (hcp2 _ _) ?_)
  go_ret
  exact ⟨_, rfl, HEnd.out.1, HEnd.out.2, rfl⟩
theorem splice20g {ys : List Et} {y : Et} {i N : Nat} {row Z : List Value} (hN : ys.length = N) (hi : i < N) (hc : row = flatC enC (ys.take i) ++ Z) :
    ∃ rest', ((row.take (i * 2) ++ enC y ++ row.drop (i * 2 + (enC y).length)).take ((i + 1) * 2) ++ flatC enC (ys.drop i) ++ (row.take (i * 2) ++ enC y ++ row.drop (i * 2 + (enC y).length)).drop ((i + 1) * 2 + (flatC enC (ys.drop i)).length)) = flatC enC (ys.take i ++ y :: ys.drop i) ++ rest' := by
  have hl1 : (flatC enC (ys.take i)).length = i * 2 := by rw [flatC_length enC_len, List.length_take]; congr 1; omega
  have e1 : row.take (i * 2) = flatC enC (ys.take i) := by rw [hc, ← hl1, List.take_left]
  have e2 : (row.take (i * 2) ++ enC y ++ row.drop (i * 2 + (enC y).length)).take ((i + 1) * 2) = flatC enC (ys.take i) ++ enC y := by
    rw [e1, show (i + 1) * 2 = (flatC enC (ys.take i) ++ enC y).length by rw [List.length_append, hl1, enC_len]; omega, List.take_left]
  rw [e2]
  refine ⟨(row.take (i * 2) ++ enC y ++ row.drop (i * 2 + (enC y).length)).drop ((i + 1) * 2 + (flatC enC (ys.drop i)).length), ?_⟩
  rw [flatC_append, show flatC enC (y :: ys.drop i) = enC y ++ flatC enC (ys.drop i) from rfl, List.append_assoc (flatC enC (ys.take i)) (enC y)]
set_option maxHeartbeats 4000000 in
theorem insert20_grow (g cap i : Nat) (ys : List Et) (y : Et) (vb : Nat) (w : World) (h : RowC enC 2 w 0 93 (.slice (some ⟨g, 0, none⟩) ys.length cap) ys) (hb : w.heap[vb]? = some (.cells (enC y).toArray 93 (0, 0))) (hi : i < ys.length) (hroom : cap < ys.length + 1) (hl : ys.length ≤ 1000000) :
    Calls Try.prog 58 #[.slice (some ⟨g, 0, none⟩) ys.length cap, .int .i64 i, .slice (some ⟨vb, 0, none⟩) 1 1] w fun e w' =>
      ∃ v', e = .returned v' ∧ RowC enC 2 w' 0 93 v' (ys.take i ++ y :: ys.drop i) ∧ Below w.heap.size w w' ∧ v'.ownBlock = some w.heap.size := by
  obtain ⟨i0, hi0, hz0, hzs, hzb⟩ := info_parts Try.infoEn20
  have h' : w.ownsRow 0 93 2 (.slice (some ⟨g, 0, none⟩) ys.length cap) ys.length (flatC enC ys) := h
  obtain ⟨hnc, hgl⟩ : ys.length ≤ cap ∧ g < w.heap.size := by
    refine ⟨?_, (h'.lt g rfl).2⟩
    rcases h.2 with ⟨h, _⟩ | ⟨g', cap', cur, h, hbg, hg, hnc, hcm, hcs, htake⟩
    · simp at h
    · simp only [Value.slice.injEq, Option.some.injEq, Addr.mk.injEq, and_true, true_and] at h
      obtain ⟨rfl, rfl⟩ := h
      exact hnc
  obtain ⟨N, hN⟩ : ∃ N, ys.length = N := ⟨_, rfl⟩
  rw [hN] at hi hroom hnc hl h' ⊢
  have hfl : (flatC enC ys).length = N * 2 := by rw [flatC_length enC_len, hN]
  have hcells : ∀ j u, (flatC enC ys)[j]? = some u → w.cell? ⟨g, j, none⟩ = some u := fun j u hj => by
    have hjl : j < N * 2 := by have := (List.getElem?_eq_some_iff.1 hj).1; omega
    have := World.ownsRow.cellAt h' j (by omega)
    rw [this, hj]
  have hdl : (flatC enC (ys.drop i)).length = (N - i) * 2 := by rw [flatC_length enC_len, List.length_drop, hN]
  have hl1 : (flatC enC (ys.take i)).length = i * 2 := by rw [flatC_length enC_len, List.length_take]; congr 1; omega
  have hfe : flatC enC ys = flatC enC (ys.take i) ++ flatC enC (ys.drop i) := by rw [← flatC_append, List.take_append_drop]
  have hdr : ∀ j u, (flatC enC (ys.drop i))[j]? = some u → (flatC enC ys)[i * 2 + j]? = some u := fun j u hj => by
    rw [hfe, List.getElem?_append_right (by omega), hl1, Nat.add_sub_cancel_left]; exact hj
  have hvw : vb < w.heap.size := (Array.getElem?_eq_some_iff.1 hb).1
  have hkk : (N : Int) + 1 - (i : Int) = ((N + 1 - i : Nat) : Int) := by omega
  have hik : i + (N + 1 - i) = N + 1 := by omega
  have hold : (Builtin.firstCells i0.size i (.slice (some ⟨g, 0, none⟩) i cap)).run Try.prog w.drew = .ok (flatC enC (ys.take i)).toArray w.drew := by
    rw [hzs]
    exact run_firstCells_some w.drew 2 i ⟨g, 0, none⟩ i cap (flatC enC (ys.take i)) hl1 (fun j v hj => by
      rw [Go.WideShapes.add_plain, Nat.zero_add]
      exact hcells j v (by rw [hfe, List.getElem?_append_left (List.getElem?_eq_some_iff.1 hj).1]; exact hj))
  have hrz : ∀ ty, (Builtin.append_ #[59, 3] ty #[.slice (some ⟨g, 0, none⟩) i cap, .int .i64 ((N : Int) + 1 - (i : Int))]).run Try.prog w =
      .ok (.slice (some ⟨w.heap.size, 0, none⟩) (N + 1) (grownCap w (N + 1) cap 93)) (w.drew.alloc (.cells ((flatC enC (ys.take i)).toArray ++ Builtin.zeroCells (Value.agg #[.int .i64 0, .pointer none]).cells (N + 1 - i) ++ Builtin.zeroCells (Value.agg #[.int .i64 0, .pointer none]).cells (grownCap w (N + 1) cap 93 - (N + 1))) 93)) := fun ty => by
    have h := Lib.run_append_grow_zeros (P := Try.prog) w 59 3 ty 93 i0 _ .i64 .i64 Try.underlying59 Try.underlying3 hi0 hz0 (some ⟨g, 0, none⟩) i cap (flatC enC (ys.take i)) hold (N + 1 - i) (by omega) (by omega) (by omega) (by omega) (by rw [hzb]; omega) (by rw [hzb, hik]; exact growslice_fits hroom (by omega))
    rw [hik] at h
    rw [hkk]
    exact h
  obtain ⟨G, hG⟩ : ∃ G, G = grownCap w (N + 1) cap 93 := ⟨_, rfl⟩
  obtain ⟨ROW, hROW⟩ : ∃ ROW : Array Value, ROW = (flatC enC (ys.take i)).toArray ++ Builtin.zeroCells (Value.agg #[.int .i64 0, .pointer none]).cells (N + 1 - i) ++ Builtin.zeroCells (Value.agg #[.int .i64 0, .pointer none]).cells (G - (N + 1)) := ⟨_, rfl⟩
  rw [← hG] at hrz
  rw [← hROW] at hrz
  have hGn : N + 1 ≤ G := by rw [hG]; exact grownCap_ge w _ _ _
  have hGm : G ≤ maxLen := by rw [hG]; exact grownCap_le_maxLen w (N + 1) cap _ (by unfold maxLen; omega)
  obtain ⟨Z, hZ, hZl⟩ : ∃ Z, ROW.toList = flatC enC (ys.take i) ++ Z ∧ Z.length = (G - i) * 2 := by
    refine ⟨(Builtin.zeroCells (Value.agg #[.int .i64 0, .pointer none]).cells (N + 1 - i)).toList ++ (Builtin.zeroCells (Value.agg #[.int .i64 0, .pointer none]).cells (G - (N + 1))).toList, by rw [hROW]; simp, ?_⟩
    have hs : ∀ n, (Builtin.zeroCells (Value.agg #[.int .i64 0, .pointer none]).cells n).toList.length = n * 2 := fun n => by simp [Builtin.zeroCells, Value.cells]
    rw [List.length_append, hs, hs]; omega
  have hRl : ROW.size = G * 2 := by
    have := congrArg List.length hZ
    rw [Array.length_toList, List.length_append, hl1, hZl] at this
    omega
  obtain ⟨W1, hW1⟩ : ∃ W1, w.drew.alloc (.cells ROW 93) = W1 := ⟨_, rfl⟩
  rw [hW1] at hrz
  have hN1 : W1.heap[w.heap.size]? = some (.cells ROW 93 (0, 0)) := by rw [← hW1]; exact heap_alloc_new w.drew _
  have hob : ∀ k, k < w.heap.size → W1.heap[k]? = w.heap[k]? := fun k hk => by rw [← hW1]; exact Below.heap_alloc w.drew _ _ hk
  have hb1 : W1.heap[vb]? = some (.cells (enC y).toArray 93 (0, 0)) := (hob vb hvw).trans hb
  obtain ⟨XA, hXA⟩ : ∃ XA, XA = (ROW.toList.take (i * 2) ++ enC y ++ ROW.toList.drop (i * 2 + (enC y).length)) := ⟨_, rfl⟩
  have hXAl : XA.length = G * 2 := by rw [hXA]; simp only [List.length_append, List.length_take, List.length_drop, Array.length_toList, enC_len, hRl]; omega
  have hcpA : ∀ ty dc, (Builtin.copy_ #[59, 58] ty #[.slice (some ⟨w.heap.size, i * 2, none⟩) (N + 1 - i) dc, .slice (some ⟨vb, 0, none⟩) 1 1]).run Try.prog W1 = .ok (goInt 1) (W1.setRow w.heap.size XA.toArray) := fun ty dc => by
    rw [hXA]
    exact run_copyK W1 _ _ ty 93 2 w.heap.size (i * 2) (N + 1 - i) dc ⟨vb, 0, none⟩ 1 1 ROW 93 (enC y) 1 Try.underlying59 (by kernel_rfl) hN1 (by simp only [Nat.min_def]; split <;> omega) rfl (fun j u hj => by rw [Go.WideShapes.add_plain, Nat.zero_add]; exact blk_cell hb1 (by simpa using hj)) (by rw [hRl, enC_len]; omega) (enC_one _)
  obtain ⟨W2, hW2⟩ : ∃ W2, W1.setRow w.heap.size XA.toArray = W2 := ⟨_, rfl⟩
  rw [hW2] at hcpA
  have hN2 : W2.heap[w.heap.size]? = some (.cells XA.toArray 93 (0, 0)) := by rw [← hW2]; exact setRow_heap W1 _ _ _ _ _ hN1
  obtain ⟨XB, hXB⟩ : ∃ XB, XB = (XA.take ((i + 1) * 2) ++ flatC enC (ys.drop i) ++ XA.drop ((i + 1) * 2 + (flatC enC (ys.drop i)).length)) := ⟨_, rfl⟩
  have hXBl : XB.length = G * 2 := by rw [hXB]; simp only [List.length_append, List.length_take, List.length_drop, hdl, hXAl]; omega
  have hob2 : ∀ k, k < w.heap.size → W2.heap[k]? = w.heap[k]? := fun k hk => by rw [← hW2, setRow_other W1 _ k _ (by omega)]; exact hob k hk
  have hcpB : ∀ ty dc sc, (Builtin.copy_ #[59, 59] ty #[.slice (some ⟨w.heap.size, (i + 1) * 2, none⟩) (N - i) dc, .slice (some ⟨g, i * 2, none⟩) (N - i) sc]).run Try.prog W2.drew = .ok (goInt ((N - i : Nat) : Int)) (W2.drew.setRow w.heap.size XB.toArray) := fun ty dc sc => by
    rw [hXB]
    exact run_copyK W2.drew _ _ ty 93 2 w.heap.size ((i + 1) * 2) (N - i) dc ⟨g, i * 2, none⟩ (N - i) sc XA.toArray 93 (flatC enC (ys.drop i)) (N - i) Try.underlying59 (by kernel_rfl) hN2 (by simp only [Nat.min_def]; split <;> omega) hdl (fun j u hj => by
      rw [Go.WideShapes.add_plain]
      have := hcells _ u (hdr j u hj)
      show W2.cell? _ = _
      simp only [World.cell?, hob2 g hgl] at this ⊢
      exact this) (by simp only [List.size_toArray, hXAl]; omega) (enC_flat_one _)
  obtain ⟨rest', hr2⟩ := splice20g (y := y) hN hi hZ
  rw [← hXA, ← hXB] at hr2
  have hnl : (ys.take i ++ y :: ys.drop i).length = N + 1 := by rw [List.length_append, List.length_take, List.length_cons, List.length_drop]; omega
  have HEnd := Lib.hid (show RowC enC 2 (W2.drew.setRow w.heap.size XB.toArray) 0 93 (.slice (some ⟨w.heap.size, 0, none⟩) (N + 1) G) (ys.take i ++ y :: ys.drop i) ∧ Below w.heap.size w (W2.drew.setRow w.heap.size XB.toArray) from by
    refine ⟨?_, below_setRow (B := w.heap.size) (w0 := w) ?_ (Nat.le_refl _) _⟩
    · unfold RowC
      rw [hnl]
      refine ⟨by rw [flatC_length enC_len, hnl], .inr ⟨w.heap.size, G, XB.toArray, rfl, Nat.zero_le _, setRow_heap W2.drew _ _ _ _ _ hN2, by omega, hGm, by simp [hXBl], ?_⟩⟩
      have hl3 : (flatC enC (ys.take i ++ y :: ys.drop i)).length = (N + 1) * 2 := by rw [flatC_length enC_len, hnl]
      show List.take _ XB = _
      rw [hr2, ← hl3, List.take_left]
    · refine Below.drew ?_
      rw [← hW2]
      refine below_setRow ?_ (Nat.le_refl _) _
      rw [← hW1]
      exact ((Below.refl _ _).drew).alloc (Nat.le_refl _) _)
  unfold maxLen at hGm
  have hz1 : ¬ ((i : Int) = (N : Int)) := by omega
  have hw1 : IntKind.i64.wrap ((i : Int) + 1) = (i : Int) + 1 := by rw [IntKind.wrap_i64]; omega
  have hb1' : (0 : Int) ≤ (i : Int) + 1 := by omega
  have htn : ((i : Int) + 1).toNat = i + 1 := by omega
  have hb3 : (i : Int) ≤ (N : Int) := by omega
  have hb5 : (cap : Int) < (N : Int) + 1 := by omega
  have hb7 : (i : Int) + 1 ≤ (N : Int) + 1 := by omega
  have hin : i ≤ N := by omega
  have hic : i ≤ cap := by omega
  have hbn2 : ¬ (cap = i) := by omega
  have hGi : ¬ (G = i) := by omega
  have hGi1 : ¬ (G = i + 1) := by omega
  have mixed : Try.prog.follows .mixedOrders = true := by kernel_rfl
  clear h h' hb hXA hXB hW1 hW2 hG hROW hZ hZl hRl hr2 hcells hdr hN1 hN2 hob hob2 hb1 hnl hXAl hXBl hfl hdl hl1 hfe hold hkk hik hi0 hz0 hzs hzb
  go_enter Try.func58, Try.ntmps58
  go_wp2_with (first
    | (at_builtin; refine Lib.wpList_append_run _ rfl _ _ _ _ rfl _ _ rfl rfl _ _ (hrz _) ?_)
    | (at_builtin; refine wpList_copy_runI _ rfl _ _ 59 58 rfl _ _ rfl rfl (hcpA _ _) ?_))
  go_region_law_o (refine step_copy_runI rfl _ _ 59 59 rfl (.slice (some ⟨w.heap.size, (i + 1) * 2, none⟩) (N - i) (G - (i + 1))) (.slice (some ⟨g, i * 2, none⟩) (N - i) (cap - i)) (by simp [Act.eval, Act.put]) (by simp [Act.eval, Act.put]) (hcpB _ _ _) ?_)
  go_wp2
  go_ret
  exact ⟨_, rfl, HEnd.out.1, HEnd.out.2, rfl⟩
/-- slices.Insert of one entry, wherever there is room or not -/
theorem insert20_any (v : Value) (i : Nat) (ys : List Et) (y : Et) (vb : Nat) (w : World) (h : RowC enC 2 w 0 93 v ys) (hb : w.heap[vb]? = some (.cells (enC y).toArray 93 (0, 0))) (hi : i ≤ ys.length) (hne : v.ownBlock ≠ some vb) (hl : ys.length ≤ 1000000) :
    Calls Try.prog 58 #[v, .int .i64 i, .slice (some ⟨vb, 0, none⟩) 1 1] w fun e w' =>
      ∃ v', e = .returned v' ∧ RowC enC 2 w' 0 93 v' (ys.take i ++ y :: ys.drop i) ∧ w.grownBy w' v.ownBlock ∧ (v'.ownBlock = v.ownBlock ∨ v'.ownBlock = some w.heap.size) := by
  by_cases he : i = ys.length
  · subst he
    rw [List.take_length, List.drop_length]
    exact insert20_end v ys y vb w h hb hl
  · rcases h.2 with ⟨_, h0⟩ | ⟨g, cap, cur, rfl, _⟩
    · omega
    · by_cases hr : ys.length + 1 ≤ cap
      · refine (insert20_room g cap i ys y vb w h hb (by omega) hr (fun e => hne (by rw [e]; rfl))).mono ?_
        rintro e w' ⟨v', rfl, h1, h2, h3⟩
        exact ⟨v', rfl, h1, h2, .inl h3⟩
      · refine (insert20_grow g cap i ys y vb w h hb (by omega) (by omega) hl).mono ?_
        rintro e w' ⟨v', rfl, h1, h2, h3⟩
        exact ⟨v', rfl, h1, grownBy_of h2, .inr h3⟩
end Go.Proofs.Ytnoegbdmjinfjaa

/-
  Bytes against nil; a row of none that was just made.
-/
namespace Go.Proofs.Ytnoegbdmjinfjaa
open Go.RowKit

theorem fresh_own (w : World) (e : TypeId) : (w.alloc (.cells #[] e)).ownsRow w.heap.size e 1 (.slice (some ⟨w.heap.size, 0, none⟩) 0 0) 0 (([] : List Int).map (Value.int .u8)) :=
  ⟨rfl, .inr ⟨w.heap.size, 0, #[], rfl, Nat.le_refl _, heap_alloc_new w _, Nat.le_refl _, by simp, rfl, rfl⟩⟩
theorem nil_none (W : World) : (binOp .eql 32 (.slice none 0 0) (.slice none 0 0)).run Try.prog W = .ok (.bool true) W := by kernel_rfl
theorem nil_some (ad : Addr) (n c : Nat) (W : World) : (binOp .eql 32 (.slice (some ad) n c) (.slice none 0 0)).run Try.prog W = .ok (.bool false) W := by kernel_rfl
end Go.Proofs.Ytnoegbdmjinfjaa

/-
  A result that lies in a block of its own. No program is named here.
-/
namespace Go.Proofs.Ytnoegbdmjinfjaa
open Go.RowKit

/-- one result, which lies in a block of its own -/
theorem results_row0 {P : Program} {fn : Func} {p : Tmp} {ty : TypeId} (h : fn.results = #[.cell p ty]) (tmps : Array Value) (w : World) (g : Nat) (t : TypeId) (cs : Array Value) (fr : Nat × Nat) (d : TypeDesc)
    (hp : tmps.getD p undef = .pointer (some ⟨g, 0, none⟩)) (hg : w.heap[g]? = some (.cells cs t fr))
    (hu : P.underlying ty = some d) (hd : (match d with | .struct _ | .array _ _ => true | _ => false) = true) (hi : (P.info? ty).map (·.size) = some cs.size) :
    (results fn tmps).run P w = .ok (.agg cs) w := by
  have hp' : tmps[p]?.getD undef = .pointer (some ⟨g, 0, none⟩) := by simpa using hp
  simp [results, h, hp', asAddr, run_loadVar_row w g t ty cs fr d hg hu hd hi]

end Go.Proofs.Ytnoegbdmjinfjaa

/-
  Layer 20's program: a stream as an object, the sender as one; bytes.Clone.
-/
namespace Go.Proofs.Ytnoegbdmjinfjaa
set_option maxRecDepth 20000
open Go.RowKit

theorem Try.infoB20 : (Try.prog.info? 5).map (fun i => (i.zero, i.size, i.bytes)) = some (some (.int .u8 0), 1, 1) := by kernel_rfl
/-- a copy in a block from a number on -/
def Cpy (lo : Nat) (zs : List Int) (v : Value) (w : World) : Prop := w.ownsRow lo 5 1 v zs.length (zs.map (Value.int .u8)) ∧ Sl .u8 w v zs
theorem Cpy.below {lo : Nat} {zs : List Int} {v : Value} {w w' : World} (h : Cpy lo zs v w) (hb : Below w.heap.size w w') : Cpy lo zs v w' := ⟨owned_below h.1 hb, h.2.below hb⟩
theorem Cpy.mono {lo lo' : Nat} {zs : List Int} {v : Value} {w : World} (h : Cpy lo zs v w) (hl : lo' ≤ lo) : Cpy lo' zs v w := ⟨owned_mono h.1 hl, h.2⟩
set_option maxHeartbeats 1000000 in
theorem clone20_any (v : Value) (zs : List Int) (w : World) (hv : Sl .u8 w v zs) (hl : zs.length ≤ 1000000000) :
    Calls Try.prog 60 #[v] w fun e w' => ∃ bv, e = .returned bv ∧ Cpy w.heap.size zs bv w' ∧ Below w.heap.size w w' := by
  obtain ⟨a, cap, rfl, _⟩ := id hv
  obtain ⟨N, hN⟩ : ∃ N, N = zs.length := ⟨_, rfl⟩
  rw [← hN] at hv ⊢
  cases a with
  | none =>
    obtain ⟨rfl, rfl⟩ := hv.bare
    obtain rfl : zs = [] := List.eq_nil_of_length_eq_zero hN.symm
    clear hv hN hl
    have hq : ∀ W, (binOp .eql 32 (.slice none 0 0) (.slice none 0 0)).run Try.prog W = .ok (.bool true) W := fun W => nil_none W
    go_enter Try.func60, Try.ntmps60
    go_wp2
    go_ret
    exact ⟨_, rfl, ⟨World.ownsRow_nil _ _ _ _, Sl.nil _ _⟩, Below.refl _ _⟩
  | some ad =>
    have hal := (Below.refl w.heap.size w).alloc (Nat.le_refl _) (.cells #[] 5)
    have HS := Lib.hid (hv.below hal)
    have HO := Lib.hid (fresh_own w 5)
    have HB := Lib.hid hal
    clear hal hN
    have hq : ∀ W, (binOp .eql 32 (.slice (some ad) N cap) (.slice none 0 0)).run Try.prog W = .ok (.bool false) W := fun W => nil_some ad N cap W
    go_enter Try.func60, Try.ntmps60
    go_wp2_with (at_builtin; refine app_ints rfl (.tmp 5) (.tmp 6) 32 rfl w.heap.size 5 .u8 1 Try.underlying32 Try.infoB20 _ 0 [] rfl HO.out _ zs rfl HS.out (by simp; omega) (by simp; unfold maxLen; omega) (by simp) ?_; intro v2 w3 hO3 hb3 hg3)
    go_ret
    simp only [List.nil_append, List.length_nil, Nat.zero_add] at hO3
    exact ⟨_, rfl, ⟨hO3, Sl.owned hO3 hv.fit (by unfold maxLen; omega)⟩, HB.out.trans hb3⟩

/-- the blocks that a stream turns; all that it refers to -/
def EtT (y : Et) (g : Nat) : Prop := g = y.p ∨ y.cv.ownBlock = some g
def EtB (y : Et) (g : Nat) : Prop := EtT y g ∨ (y.x.head ≠ [] ∧ y.hv.ownBlock = some g)
def etCells (y : Et) : Array Value := #[.int .i64 y.x.win, y.hv, .bool y.x.said, .bool y.x.waits, .bool y.x.fin, y.cv, .int .i64 (y.went : Int)]
def EtBlk (W : World) (y : Et) : Prop := W.heap[y.p]? = some (.cells (etCells y) 77 (0, 0))
theorem EtBlk.lt {W : World} {y : Et} (h : EtBlk W y) : y.p < W.heap.size := (Array.getElem?_eq_some_iff.1 h).1
theorem EtBlk.cells {W : World} {y : Et} (h : EtBlk W y) : W.cell? ⟨y.p, 0, none⟩ = some (.int .i64 y.x.win) ∧ W.cell? ⟨y.p, 1, none⟩ = some y.hv ∧ W.cell? ⟨y.p, 2, none⟩ = some (.bool y.x.said) ∧ W.cell? ⟨y.p, 3, none⟩ = some (.bool y.x.waits) ∧ W.cell? ⟨y.p, 4, none⟩ = some (.bool y.x.fin) ∧ W.cell? ⟨y.p, 5, none⟩ = some y.cv ∧ W.cell? ⟨y.p, 6, none⟩ = some (.int .i64 (y.went : Int)) ∧ y.p < W.heap.size :=
  ⟨blk_cell h rfl, blk_cell h rfl, blk_cell h rfl, blk_cell h rfl, blk_cell h rfl, blk_cell h rfl, blk_cell h rfl, h.lt⟩
theorem EtBlk.free {W : World} {y : Et} (h : EtBlk W y) (j : Nat) : W.frozen? ⟨y.p, j, none⟩ = false := blk_free h
/-- a stream: its block, its head, the bytes that came in a row of its own -/
structure StO (W : World) (y : Et) : Prop where
  blk : EtBlk W y
  hd : Sl .u8 W y.hv y.x.head
  own : W.ownsRow 0 5 1 y.cv y.cs.length (y.cs.map (Value.int .u8))
  sl : Sl .u8 W y.cv y.cs
  b : y.cs.drop y.went = y.x.b
  le : y.went ≤ y.x.b.length
  nc : ∀ g, y.cv.ownBlock = some g → g ≠ y.p
  nh : y.x.head ≠ [] → ∀ g, y.hv.ownBlock = some g → g ≠ y.p ∧ y.cv.ownBlock ≠ some g
section
variable {W W' : World} {y y' : Et}
theorem StO.len (h : StO W y) : y.cs.length = y.went + y.x.b.length ∧ y.went ≤ y.cs.length := by
  have h1 := h.le
  have h2 := congrArg List.length h.b
  rw [List.length_drop] at h2
  omega
theorem StO.lt (h : StO W y) {g : Nat} (hg : EtB y g) : g < W.heap.size := by
  rcases hg with (rfl | hg) | ⟨h1, hg⟩
  · exact h.blk.lt
  · exact (h.own.lt g hg).2
  · exact h.hd.lt0 h1 hg
theorem StO.turn {S : Nat → Prop} (h : StO W y) (ht : Turn S W W') (h0 : ∀ g, EtB y g → ¬ S g) : StO W' y :=
  ⟨ht.obj h.blk (h0 _ (.inl (.inl rfl))), h.hd.turn0 ht (fun h1 g hg => h0 g (.inr ⟨h1, hg⟩)), owned_turn h.own ht (fun g hg => h0 g (.inl (.inr hg))), h.sl.turn ht (fun g hg => h0 g (.inl (.inr hg))), h.b, h.le, h.nc, h.nh⟩
theorem StO.below (h : StO W y) (hb : Below W.heap.size W W') : StO W' y := h.turn (Turn.of_below hb (S := fun _ => False)) (fun _ _ => id)
/-- a cell of the stream's block that is a number or a Bool is set -/
theorem StO.setN (h : StO W y) (j : Nat) (u : Value) (e : etCells y' = (etCells y).setIfInBounds j u) (hp : y'.p = y.p) (hx : y'.x.head = y.x.head ∧ y'.x.b = y.x.b ∧ y'.hv = y.hv ∧ y'.cv = y.cv ∧ y'.cs = y.cs ∧ y'.went = y.went) :
    StO (W.setCell ⟨y.p, j, none⟩ u) y' ∧ Turn (fun k => k = y.p) W (W.setCell ⟨y.p, j, none⟩ u) := by
  have ht := turn_set19 (W := W) y.p j u
  obtain ⟨x1, x2, x3, x4, x5, x6⟩ := hx
  refine ⟨⟨?_, ?_, ?_, ?_, ?_, ?_, ?_, ?_⟩, ht⟩
  · unfold EtBlk; rw [hp, e]; exact heap_setCell_same _ y.p j _ _ _ h.blk
  · rw [x1, x3]; exact h.hd.turn0 ht (fun h1 g hg => (h.nh h1 g hg).1)
  · rw [x4, x5]; exact owned_turn h.own ht h.nc
  · rw [x4, x5]; exact h.sl.turn ht h.nc
  · rw [x2, x5, x6]; exact h.b
  · rw [x2, x6]; exact h.le
  · rw [x4, hp]; exact h.nc
  · rw [x1, x3, x4, hp]; exact h.nh
end
/-- what a call makes of a stream -/
structure StStep (W W' : World) (y y' : Et) : Prop where
  o : StO W' y'
  t : Turn (EtT y) W W'
  b : ∀ g, EtB y' g → EtB y g ∨ W.heap.size ≤ g
  p : y'.p = y.p
  i : y'.x.id = y.x.id
theorem StStep.refl {W W' : World} {y : Et} (h : StO W y) (hb : Below W.heap.size W W') : StStep W W' y y := ⟨h.below hb, Turn.of_below hb, fun _ hg => .inl hg, rfl, rfl⟩
theorem growW_win {x : Int} (n : Int) (h : winB x = true) : winB (growW x n).1 = true := by
  unfold growW
  split
  · have := winB_rng h
    unfold winB
    exact decide_eq_true (by dsimp only; omega)
  · exact h
theorem takeW_win {x : Int} (n : Int) (h : winB x = true) : winB (takeW x n).1 = true := by
  unfold takeW
  split
  · have := winB_rng h
    unfold winB
    exact decide_eq_true (by dsimp only; omega)
  · exact h
theorem shiftW_win {x : Int} (n : Int) (h : winB x = true) : winB (shiftW x n).1 = true := by
  unfold shiftW
  split
  · rename_i h1; exact h1.2.2.2
  · exact h
/-- the program's sender in block T -/
structure SnO (W : World) (T : Nat) (v : Value) (ys : List Et) (q : Sd) : Prop where
  blk : W.heap[T]? = some (.cells #[.int .i64 q.cap, v] 61 (0, 0))
  row : RowC enC 2 W 0 93 v ys
  st : ∀ y ∈ ys, StO W y
  e : q.l = ys.map (·.x)
  rise : Rise ys
  ids : ∀ y ∈ ys, 1 ≤ y.x.id ∧ y.x.id ≤ 2147483647
  nv : ∀ g, v.ownBlock = some g → g ≠ T
  ns : ∀ y ∈ ys, ∀ g, EtB y g → g ≠ T ∧ v.ownBlock ≠ some g
  np : ∀ (i j : Nat) (a b : Et), i ≠ j → ys[i]? = some a → ys[j]? = some b → ∀ g, EtB a g → ¬ EtB b g
  wr : ∀ y ∈ ys, winB y.x.win = true
section
variable {W W' : World} {T : Nat} {v : Value} {ys : List Et} {q : Sd}
theorem SnO.cells (h : SnO W T v ys q) : W.cell? ⟨T, 0, none⟩ = some (.int .i64 q.cap) ∧ W.cell? ⟨T, 1, none⟩ = some v ∧ T < W.heap.size := ⟨blk_cell h.blk rfl, blk_cell h.blk rfl, (Array.getElem?_eq_some_iff.1 h.blk).1⟩
theorem SnO.free (h : SnO W T v ys q) (j : Nat) : W.frozen? ⟨T, j, none⟩ = false := blk_free h.blk
theorem SnO.sl (h : SnO W T v ys q) : SlC enC 2 W v ys := h.row.toSl enC_len
theorem SnO.len (h : SnO W T v ys q) : q.l.length = ys.length := by rw [h.e, List.length_map]
theorem SnO.turn {S : Nat → Prop} (h : SnO W T v ys q) (ht : Turn S W W') (h0 : ¬ S T) (h1 : ∀ g, v.ownBlock = some g → ¬ S g) (h2 : ∀ y ∈ ys, ∀ g, EtB y g → ¬ S g) : SnO W' T v ys q :=
  ⟨ht.obj h.blk h0, owned_turn h.row ht h1, fun y hy => (h.st y hy).turn ht (h2 y hy), h.e, h.rise, h.ids, h.nv, h.ns, h.np, h.wr⟩
theorem SnO.below (h : SnO W T v ys q) (hb : Below W.heap.size W W') : SnO W' T v ys q := h.turn (Turn.of_below hb (S := fun _ => False)) id (fun _ _ => id) (fun _ _ _ _ => id)
end
theorem enC_set {ys : List Et} {k : Nat} {y y' : Et} (hy : ys[k]? = some y) (e : enC y' = enC y) : flatC enC (ys.set k y') = flatC enC ys := by
  induction ys generalizing k with
  | nil => rfl
  | cons z r ih =>
    cases k with
    | zero =>
      obtain rfl : z = y := by simpa using hy
      simp [flatC, e]
    | succ k =>
      have := ih (k := k) (by simpa using hy)
      simp only [flatC, List.set_cons_succ, List.flatMap_cons] at this ⊢
      rw [this]
/-- one stream is stepped -/
theorem SnO.step {W W' : World} {T : Nat} {v : Value} {ys : List Et} {q : Sd} {k : Nat} {y y' : Et} (h : SnO W T v ys q) (hy : ys[k]? = some y) (hs : StStep W W' y y') (hw : winB y'.x.win = true) : SnO W' T v (ys.set k y') { q with l := q.l.set k y'.x } := by
  have hm := List.mem_of_getElem? hy
  have hkl := (List.getElem?_eq_some_iff.1 hy).1
  have hTl := h.cells.2.2
  have get : ∀ (j : Nat) (z : Et), (ys.set k y')[j]? = some z → (j = k ∧ z = y') ∨ (j ≠ k ∧ ys[j]? = some z) := fun j z hz => by
    by_cases e : j = k
    · subst e
      rw [List.getElem?_set_self hkl] at hz
      exact .inl ⟨rfl, (Option.some.inj hz).symm⟩
    · rw [List.getElem?_set_ne (fun e' => e e'.symm)] at hz
      exact .inr ⟨e, hz⟩
  have hvl : ∀ g, v.ownBlock = some g → g < W.heap.size := fun g hg => (h.row.lt g hg).2
  refine ⟨hs.t.obj h.blk (fun e => (h.ns y hm T (.inl e)).1 rfl), ?_, fun z hz => ?_, by rw [h.e, List.map_set], fun i j a b hij ha hb => ?_, fun z hz => ?_, h.nv, fun z hz g hg => ?_, fun i j a b hij ha hb g hg hg' => ?_, fun z hz => ?_⟩
  · unfold RowC
    rw [List.length_set, enC_set hy (by unfold enC; rw [hs.p, hs.i])]
    exact owned_turn h.row hs.t (fun g hg e => (h.ns y hm g (.inl e)).2 hg)
  · obtain ⟨j, hj⟩ := List.getElem?_of_mem hz
    rcases get j z hj with ⟨_, rfl⟩ | ⟨hne, hj⟩
    · exact hs.o
    · exact (h.st z (List.mem_of_getElem? hj)).turn hs.t (fun g hg e => h.np j k z y hne hj hy g hg (.inl e))
  · rcases get i a ha with ⟨rfl, rfl⟩ | ⟨h1, ha1⟩
    · rcases get j b hb with ⟨rfl, rfl⟩ | ⟨h2, hb1⟩
      · omega
      · rw [hs.i]; exact h.rise _ _ _ _ hij hy hb1
    · rcases get j b hb with ⟨rfl, rfl⟩ | ⟨h2, hb1⟩
      · rw [hs.i]; exact h.rise _ _ _ _ hij ha1 hy
      · exact h.rise _ _ _ _ hij ha1 hb1
  · rcases List.mem_or_eq_of_mem_set hz with hz | rfl
    · exact h.ids z hz
    · rw [hs.i]; exact h.ids y hm
  · rcases List.mem_or_eq_of_mem_set hz with hz | rfl
    · exact h.ns z hz g hg
    · rcases hs.b g hg with hg | hg
      · exact h.ns y hm g hg
      · exact ⟨by omega, fun e => by have := hvl g e; omega⟩
  · rcases get i a ha with ⟨rfl, rfl⟩ | ⟨h1, ha1⟩
    · rcases get j b hb with ⟨rfl, rfl⟩ | ⟨h2, hb1⟩
      · exact hij rfl
      · rcases hs.b g hg with hg | hg
        · exact h.np _ _ _ _ hij hy hb1 g hg hg'
        · have := (h.st b (List.mem_of_getElem? hb1)).lt hg'; omega
    · rcases get j b hb with ⟨rfl, rfl⟩ | ⟨h2, hb1⟩
      · rcases hs.b g hg' with hg' | hg'
        · exact h.np _ _ _ _ hij ha1 hy g hg hg'
        · have := (h.st a (List.mem_of_getElem? ha1)).lt hg; omega
      · exact h.np _ _ _ _ hij ha1 hb1 g hg hg'
  · rcases List.mem_or_eq_of_mem_set hz with hz | rfl
    · exact h.wr z hz
    · exact hw
/-- the program's sender, and all blocks that it refers to -/
def SnB (T : Nat) (v : Value) (ys : List Et) (g : Nat) : Prop := g = T ∨ v.ownBlock = some g ∨ ∃ y ∈ ys, EtB y g
def SdAt (W : World) (T : Nat) (B : Nat → Prop) (q : Sd) : Prop := ∃ v ys, SnO W T v ys q ∧ ∀ g, B g ↔ SnB T v ys g
theorem SdAt.lt {W : World} {T : Nat} {B : Nat → Prop} {q : Sd} (h : SdAt W T B q) {g : Nat} (hg : B g) : g < W.heap.size := by
  obtain ⟨v, ys, h, hB⟩ := h
  rcases (hB g).1 hg with rfl | hg | ⟨y, hy, hg⟩
  · exact h.cells.2.2
  · exact (h.row.lt g hg).2
  · exact (h.st y hy).lt hg
theorem SdAt.turn {W W' : World} {T : Nat} {B S : Nat → Prop} {q : Sd} (h : SdAt W T B q) (ht : Turn S W W') (h0 : ∀ g, B g → ¬ S g) : SdAt W' T B q := by
  obtain ⟨v, ys, h, hB⟩ := h
  exact ⟨v, ys, h.turn ht (h0 T ((hB T).2 (.inl rfl))) (fun g hg => h0 g ((hB g).2 (.inr (.inl hg)))) (fun y hy g hg => h0 g ((hB g).2 (.inr (.inr ⟨y, hy, hg⟩)))), hB⟩
theorem SnO.at {W w : World} {T : Nat} {v v' : Value} {ys ys' : List Et} {q : Sd} {B : Nat → Prop} (h : SnO W T v' ys' q) (hB : ∀ g, B g ↔ SnB T v ys g) (hv : ∀ g, v'.ownBlock = some g → v.ownBlock = some g ∨ w.heap.size ≤ g) (hy : ∀ y' ∈ ys', ∀ g, EtB y' g → (∃ y ∈ ys, EtB y g) ∨ w.heap.size ≤ g) :
    ∃ B', SdAt W T B' q ∧ ∀ g, B' g → B g ∨ w.heap.size ≤ g := by
  refine ⟨SnB T v' ys', ⟨v', ys', h, fun _ => Iff.rfl⟩, fun g hg => ?_⟩
  rcases hg with e | e | ⟨y', hm, e⟩
  · exact .inl ((hB g).2 (.inl e))
  · exact (hv g e).imp_left (fun e => (hB g).2 (.inr (.inl e)))
  · exact (hy y' hm g e).imp_left (fun e => (hB g).2 (.inr (.inr e)))
end Go.Proofs.Ytnoegbdmjinfjaa

/-
  Layer 20's program: what a stream's methods make of it, but take.
-/
namespace Go.Proofs.Ytnoegbdmjinfjaa
set_option maxRecDepth 20000
open Go.RowKit

theorem size20_any (y : Et) (w : World) (h : StO w y) : Calls Try.prog 38 #[.pointer (some ⟨y.p, 5, none⟩)] w fun e w' => e = .returned (.int .i64 (y.x.b.length : Nat)) ∧ ∃ n, w' = w.drewN n := by
  obtain ⟨f0, f1, f2, f3, f4, f5, f6, f7⟩ := h.blk.cells
  obtain ⟨hl, hle⟩ := h.len
  obtain ⟨a, c, ecv, _⟩ := id h.sl
  rw [ecv] at f5
  have hml := h.sl.len
  unfold maxLen at hml
  have HD := Lib.hid (show ((y.x.b.length : Nat) : Int) = (y.cs.length : Int) - y.went by omega)
  clear h ecv hl
  go_enter Try.func38, Try.ntmps38
  go_wp2_with fail
  go_quiet (fail)
  go_wp2_with fail
  go_ret
  exact ⟨by rw [HD.out]; rfl, _, rfl⟩
def endB (x : Sm) : Bool := x.fin && decide (x.b.length = 0)
theorem ended20_any (y : Et) (w : World) (h : StO w y) : Calls Try.prog 48 #[.pointer (some ⟨y.p, 0, none⟩)] w fun e w' => e = .returned (.bool (endB y.x)) ∧ ∃ n, w' = w.drewN n := by
  obtain ⟨f0, f1, f2, f3, f4, f5, f6, f7⟩ := h.blk.cells
  have HS := Lib.hid (size20_any y w h)
  have HE := Lib.hid (show endB y.x = (y.x.fin && decide (y.x.b.length = 0)) from rfl)
  clear h
  obtain ⟨fb, hfb⟩ : ∃ fb, y.x.fin = fb := ⟨_, rfl⟩
  rw [hfb] at f4 HE
  clear hfb
  cases fb
  · go_enter Try.func48, Try.ntmps48
    go_wp2_with fail
    go_ret
    exact ⟨by rw [HE.out]; rfl, 0, rfl⟩
  · obtain ⟨n, hn⟩ : ∃ n, y.x.b.length = n := ⟨_, rfl⟩
    rw [hn] at HS HE
    have HN := Lib.hid (show decide (n = 0) = ((n : Int) == 0) by by_cases e : n = 0 <;> simp [e])
    clear hn
    go_enter Try.func48, Try.ntmps48
    go_wp2_with fail
    refine HS.out.mono ?_
    rintro e w1 ⟨rfl, m, rfl⟩
    go_wp2_with fail
    go_ret
    exact ⟨by rw [HE.out, HN.out]; rfl, m, rfl⟩
theorem end20_any (y : Et) (w : World) (h : StO w y) : Calls Try.prog 61 #[.pointer (some ⟨y.p, 0, none⟩)] w fun e w' => e = .returned (.int .i64 (if endB y.x = true then 1 else 0)) ∧ ∃ n, w' = w.drewN n := by
  have HS := Lib.hid (ended20_any y w h)
  clear h
  obtain ⟨eb, he⟩ : ∃ eb, endB y.x = eb := ⟨_, rfl⟩
  rw [he] at HS ⊢
  clear he
  cases eb
  all_goals
    go_enter Try.func61, Try.ntmps61
    go_wp2_with fail
    refine HS.out.mono ?_
    rintro e w1 ⟨rfl, m, rfl⟩
    go_wp2_with fail
    go_ret
    exact ⟨rfl, m, rfl⟩
/-- what came is another row -/
theorem StO.came {W W' : World} {y : Et} {S : Nat → Prop} (h : StO W y) {u : Value} {us bb : List Int} {m : Nat} (ht : Turn S W W') (hS : ∀ g, S g → EtT y g) (hu : W'.ownsRow 0 5 1 u us.length (us.map (Value.int .u8))) (hs : Sl .u8 W' u us) (hbb : us.drop m = bb) (hm : m ≤ bb.length)
    (hn : ∀ g, u.ownBlock = some g → y.cv.ownBlock = some g ∨ W.heap.size ≤ g) (hblk : W'.heap[y.p]? = some (.cells #[.int .i64 y.x.win, y.hv, .bool y.x.said, .bool y.x.waits, .bool y.x.fin, u, .int .i64 (m : Int)] 77 (0, 0))) :
    StO W' ⟨{ y.x with b := bb }, y.p, y.hv, u, us, m⟩ := by
  refine ⟨hblk, h.hd.turn0 ht (fun h1 g hg e => ?_), hu, hs, hbb, hm, fun g hg => ?_, fun h1 g hg => ⟨(h.nh h1 g hg).1, fun e => ?_⟩⟩
  · rcases hS g e with e1 | e1
    · exact (h.nh h1 g hg).1 e1
    · exact (h.nh h1 g hg).2 e1
  · rcases hn g hg with e | e
    · exact h.nc g e
    · have := h.blk.lt; show g ≠ y.p; omega
  · rcases hn g e with e | e
    · exact (h.nh h1 g hg).2 e
    · have := h.lt (.inr ⟨h1, hg⟩); omega
set_option maxHeartbeats 1000000 in
theorem put20_any (y : Et) (bv : Value) (zs : List Int) (w : World) (h : StO w y) (hb : Sl .u8 w bv zs) (hc : y.x.b.length ≤ 1000000) (hz : zs.length ≤ 1000000) :
    Calls Try.prog 59 #[.pointer (some ⟨y.p, 5, none⟩), bv] w fun e w' => e = .returned (.tuple #[]) ∧ ∃ y', StStep w w' y y' ∧ y'.x = { y.x with b := y.x.b ++ zs } := by
  obtain ⟨f0, f1, f2, f3, f4, f5, f6, f7⟩ := h.blk.cells
  have hfr := h.blk.free 5
  obtain ⟨hl, hle⟩ := h.len
  have hle2 := h.le
  obtain ⟨a, c, ecv, _⟩ := id h.sl
  obtain ⟨L, hL⟩ : ∃ L, y.cs.length = L := ⟨_, rfl⟩
  rw [ecv, hL] at f5
  have HO := Lib.hid h
  have HB := Lib.hid hb
  have HL := Lib.hid (show y.cs.length = L ∧ L ≤ 2000000 ∧ zs.length ≤ 1000000 ∧ y.cv = .slice a L c from ⟨hL, by omega, hz, by rw [ecv, hL]⟩)
  obtain ⟨ab, cb, rfl, _⟩ := id hb
  clear h hb hl hle hle2 ecv hL hc
  go_enter Try.func59, Try.ntmps59
  go_wp2_with (at_builtin; refine app_ints_at rfl (.tmp 8) (.tmp 9) 32 rfl 0 5 .u8 1 Try.underlying32 Try.infoB20 (.slice a L c) L y.cs rfl (by rw [← HL.out.2.2.2]; have := HO.out.own; rwa [HL.out.1] at this) _ zs rfl HB.out (by have := HL.out; omega) (by have := HL.out; unfold maxLen; omega) (Nat.zero_le _) ?_; intro v4 w4 own4 hc4 hg4 hat4; obtain ⟨a4, k4, hv4, _⟩ := owned_shape own4; subst hv4; have HO4 := Lib.hid (And.intro own4 (And.intro hg4 hat4)); have hq4 := (hg4.block y.p f7 (fun e => HO.out.nc y.p (by rw [HL.out.2.2.2]; exact e.symm) rfl)).trans HO.out.blk; have j1 := blk_free (j := 5) hq4; have j2 := blk_cell (j := 5) hq4 rfl; have j4 := (Array.getElem?_eq_some_iff.1 hq4).1; have HQ4 := Lib.hid hq4; clear own4 hc4 hg4 hat4 hq4)
  refine bodyPost_end (results_none rfl _ _ _) rfl ?_
  obtain ⟨own4, hg4, hat4⟩ := HO4.out
  obtain ⟨hL1, hL2, hL3, hL4⟩ := HL.out
  rw [hL1] at own4 hat4 ⊢
  have ht4 : Turn (fun k => y.cv.ownBlock = some k) w w4 := by rw [hL4]; exact Turn.of_row hg4
  have ht : Turn (EtT y) w (w4.setCell ⟨y.p, 5, none⟩ (.slice a4 (L + zs.length) k4)) := (ht4.mono (fun k _ hk => .inr hk)).trans' (turn_set19 (W := w4) y.p 5 _) (fun k _ hk => .inl hk)
  have hn : ∀ g, (Value.slice a4 (L + zs.length) k4).ownBlock = some g → y.cv.ownBlock = some g ∨ w.heap.size ≤ g := fun g hg => by
    rcases hat4 with e | e
    · rw [hL4]; exact .inl (e ▸ hg)
    · rw [e] at hg; cases hg; exact .inr (Nat.le_refl _)
  have hne : ∀ g, (Value.slice a4 (L + zs.length) k4).ownBlock = some g → ¬ g = y.p := fun g hg => by
    rcases hn g hg with e | e
    · exact HO.out.nc g e
    · have := HO.out.blk.lt; omega
  have hll := HO.out.len
  have hle := HO.out.le
  have own5 : w4.ownsRow 0 5 1 (.slice a4 (L + zs.length) k4) (y.cs ++ zs).length ((y.cs ++ zs).map (Value.int .u8)) := by rw [List.length_append, hL1]; exact own4
  have hfit : Fit .u8 (y.cs ++ zs) := Fit.append HO.out.sl.fit HB.out.fit
  have hml : (y.cs ++ zs).length ≤ maxLen := by unfold maxLen; rw [List.length_append]; omega
  have hdr : (y.cs ++ zs).drop y.went = y.x.b ++ zs := by rw [List.drop_append_of_le_length hll.2, HO.out.b]
  have hS := HO.out.came (u := .slice a4 (L + zs.length) k4) (us := y.cs ++ zs) (m := y.went) ht (fun g e => e) (owned_turn own5 (turn_set19 _ _ _) hne) ((Sl.of_own own5 hfit hml).turn (turn_set19 _ _ _) hne) hdr (by rw [List.length_append]; omega) hn (heap_setCell_same _ y.p 5 _ _ _ HQ4.out)
  refine ⟨rfl, _, ⟨hS, ht, fun g hg => ?_, rfl, rfl⟩, rfl⟩
  rcases hg with (e | e) | e
  · exact .inl (.inl (.inl e))
  · exact (hn g e).imp_left (fun e => .inl (.inr e))
  · exact .inl (.inr e)
/-- a cell of the stream's own block is set: a step -/
theorem StStep.setN {W W' : World} {y y1 y' : Et} (h : StStep W W' y y1) (j : Nat) (u : Value) (e : etCells y' = (etCells y1).setIfInBounds j u) (hp : y'.p = y1.p) (hi : y'.x.id = y1.x.id) (hx : y'.x.head = y1.x.head ∧ y'.x.b = y1.x.b ∧ y'.hv = y1.hv ∧ y'.cv = y1.cv ∧ y'.cs = y1.cs ∧ y'.went = y1.went) :
    StStep W (W'.setCell ⟨y.p, j, none⟩ u) y y' := by
  have hq := h.o.setN j u e hp hx
  rw [h.p] at hq
  refine ⟨hq.1, h.t.trans' hq.2 (fun k _ hk => .inl hk), fun g hg => ?_, hp.trans h.p, hi.trans h.i⟩
  obtain ⟨x1, _, x3, x4, _, _⟩ := hx
  refine h.b g ?_
  unfold EtB EtT at hg ⊢
  rw [x1, x3, x4, hp] at hg
  exact hg
theorem StStep.cells {W W' : World} {y y1 : Et} (h : StStep W W' y y1) : W'.heap[y.p]? = some (.cells (etCells y1) 77 (0, 0)) := by rw [← h.p]; exact h.o.blk
set_option maxHeartbeats 1000000 in
theorem sayData20_any (y : Et) (bv : Value) (zs : List Int) (last : Bool) (w : World) (h : StO w y) (hb : Sl .u8 w bv zs) (hc : y.x.b.length ≤ 1000000) (hz : zs.length ≤ 1000000) :
    Calls Try.prog 44 #[.pointer (some ⟨y.p, 0, none⟩), bv, .bool last] w fun e w' => e = .returned (.tuple #[]) ∧ ∃ y', StStep w w' y y' ∧ y'.x = { y.x with b := y.x.b ++ zs, fin := last } := by
  have HP := Lib.hid (put20_any y bv zs w h hb hc hz)
  obtain ⟨ab, cb, rfl, _⟩ := id hb
  have hlt := h.blk.lt
  clear h hb hc hz
  go_enter Try.func44, Try.ntmps44
  go_wp2_with fail
  refine HP.out.mono ?_
  rintro e w1 ⟨rfl, y1, hs, hx⟩
  have g4 := blk_cell (j := 4) hs.cells rfl
  have e4 := blk_free (j := 4) hs.cells
  have l4 := (Array.getElem?_eq_some_iff.1 hs.cells).1
  have HS := Lib.hid (And.intro hs hx)
  clear hs hx
  go_wp2_with fail
  refine bodyPost_end (results_none rfl _ _ _) rfl ?_
  obtain ⟨hs, hx⟩ := HS.out
  exact ⟨rfl, { y1 with x := { y1.x with fin := last } }, hs.setN 4 (.bool last) rfl rfl rfl ⟨rfl, rfl, rfl, rfl, rfl, rfl⟩, by dsimp only; rw [hx]⟩
set_option maxHeartbeats 1000000 in
theorem sayHead20_any (y : Et) (bv : Value) (zs : List Int) (last : Bool) (w : World) (h : StO w y) (hb : Sl .u8 w bv zs) (hz : zs.length ≤ 1000000) :
    Calls Try.prog 45 #[.pointer (some ⟨y.p, 0, none⟩), bv, .bool last] w fun e w' => e = .returned (.tuple #[]) ∧ ∃ y', StStep w w' y y' ∧ y'.x = { y.x with head := zs, said := true, waits := true, fin := last } := by
  have HC := Lib.hid (clone20_any bv zs w hb (by omega))
  obtain ⟨ab, cb, rfl, _⟩ := id hb
  have HO := Lib.hid h
  clear h hb hz
  go_enter Try.func45, Try.ntmps45
  go_wp2_with fail
  refine HC.out.mono ?_
  rintro e w1 ⟨hv, rfl, hc1, hb1⟩
  obtain ⟨ah, ch, rfl, _⟩ := id hc1.2
  have ho1 := HO.out.below hb1
  have hq := ho1.blk
  have j1 := blk_cell (j := 1) hq rfl
  have j2 := blk_cell (j := 2) hq rfl
  have j3 := blk_cell (j := 3) hq rfl
  have j4 := blk_cell (j := 4) hq rfl
  have k1 := blk_free (j := 1) hq
  have k2 := blk_free (j := 2) hq
  have k3 := blk_free (j := 3) hq
  have k4 := blk_free (j := 4) hq
  have l1 := ho1.blk.lt
  have HW := Lib.hid (And.intro ho1 (And.intro hc1 hb1))
  clear ho1 hc1 hb1 hq
  go_wp2_with fail
  refine bodyPost_end (results_none rfl _ _ _) rfl ?_
  obtain ⟨ho1, hc1, hb1⟩ := HW.out
  have hp0 := HO.out.blk.lt
  have hnew : ∀ g, (Value.slice ah zs.length ch).ownBlock = some g → w.heap.size ≤ g := fun g hg => (hc1.1.lt g hg).1
  have s0 : StStep w (w1.setCell ⟨y.p, 1, none⟩ (.slice ah zs.length ch)) y { y with x := { y.x with head := zs }, hv := .slice ah zs.length ch } := by
    have ht := turn_set19 (W := w1) y.p 1 (.slice ah zs.length ch)
    refine ⟨⟨heap_setCell_same _ y.p 1 _ _ _ ho1.blk, hc1.2.turn ht (fun g hg e => by have := hnew g hg; have e' : g = y.p := e; omega), owned_turn ho1.own ht ho1.nc, ho1.sl.turn ht ho1.nc, ho1.b, ho1.le, ho1.nc, fun _ g hg => ⟨by have := hnew g hg; show g ≠ y.p; omega, fun e => by have := hnew g hg; have := HO.out.lt (.inl (.inr e)); omega⟩⟩, (Turn.of_below hb1).trans' ht (fun k _ hk => .inl hk), fun g hg => ?_, rfl, rfl⟩
    rcases hg with hg | ⟨_, hg⟩
    · exact .inl (.inl hg)
    · exact .inr (hnew g hg)
  have s1 := s0.setN (y' := { y with x := { y.x with head := zs, said := true }, hv := .slice ah zs.length ch }) 2 (.bool true) rfl rfl rfl ⟨rfl, rfl, rfl, rfl, rfl, rfl⟩
  have s2 := s1.setN (y' := { y with x := { y.x with head := zs, said := true, waits := true }, hv := .slice ah zs.length ch }) 3 (.bool true) rfl rfl rfl ⟨rfl, rfl, rfl, rfl, rfl, rfl⟩
  have s3 := s2.setN (y' := { y with x := { y.x with head := zs, said := true, waits := true, fin := last }, hv := .slice ah zs.length ch }) 4 (.bool last) rfl rfl rfl ⟨rfl, rfl, rfl, rfl, rfl, rfl⟩
  exact ⟨rfl, _, s3, rfl⟩
theorem StO.far {W W' : World} {y : Et} {S : Nat → Prop} (h : StO W y) (ht : Turn S W W') (hS : ∀ k, S k → ¬ EtB y k) : StO W' y := h.turn ht (fun g hg e => hS g e hg)
/-- what is turned besides lies in none of its blocks, and did not lie at the start -/
theorem StStep.far {W W' W'' : World} {y y' : Et} {S : Nat → Prop} (h : StStep W W' y y') (ht : Turn S W' W'') (hS : ∀ k, S k → W.heap.size ≤ k ∧ ¬ EtB y' k) : StStep W W'' y y' :=
  ⟨h.o.far ht (fun k hk => (hS k hk).2), h.t.trans' ht (fun k hk e => by have := (hS k e).1; omega), h.b, h.p, h.i⟩
theorem Try.sliceD20 : Try.prog.underlying 32 = some (.slice (Try.prog.elem 32)) := by kernel_rfl
theorem Try.sizeD20 (w : World) : (sizeOf (Try.prog.elem 32)).run Try.prog w = .ok 1 w := by kernel_rfl
end Go.Proofs.Ytnoegbdmjinfjaa

/-
  Layer 20's program: what a stream's headers, take and data make of it (written by wip/tools/gen20p.py).
-/
namespace Go.Proofs.Ytnoegbdmjinfjaa
set_option maxRecDepth 20000
open Go.RowKit

set_option maxHeartbeats 4000000 in
theorem headers20_any (y : Et) (id : Int) (w : World) (h : StO w y) :
    Calls Try.prog 47 #[.pointer (some ⟨y.p, 0, none⟩), .int .i64 id] w fun e w' => e = .returned (.agg #[.int .i64 1, .int .i64 (if endB y.x = true then 5 else 4), .int .i64 id, y.hv]) ∧ Sl .u8 w' y.hv y.x.head ∧ ∃ y', StStep w w' y y' ∧ y'.x = { y.x with head := [], waits := false } := by
  obtain ⟨ef, he⟩ : ∃ ef : Int, (if endB y.x = true then 1 else 0) = ef := ⟨_, rfl⟩
  obtain ⟨fl, hfl⟩ : ∃ fl : Int, (if endB y.x = true then 5 else 4) = fl := ⟨_, rfl⟩
  rw [hfl]
  have HE := Lib.hid he
  have HF := Lib.hid (show bits .or .i64 4 ef = fl by rw [← he, ← hfl]; split <;> rfl)
  have hhd := h.hd
  obtain ⟨ah, ch, ehv, _⟩ := hhd
  obtain ⟨hn, hhn⟩ : ∃ hn, y.x.head.length = hn := ⟨_, rfl⟩
  rw [hhn] at ehv
  have HHv := Lib.hid ehv
  obtain ⟨g, hg⟩ : ∃ g, w.heap.size = g := ⟨_, rfl⟩
  obtain ⟨W1, hW1⟩ : ∃ W1, w.alloc (.cells #[.int .i64 0, .int .i64 0, .int .i64 0, .slice none 0 0] 34) = W1 := ⟨_, rfl⟩
  have HB1 := Lib.hid (show Below w.heap.size w W1 ∧ W1.heap[g]? = some (.cells #[.int .i64 0, .int .i64 0, .int .i64 0, .slice none 0 0] 34 (0, 0)) ∧ w.heap.size = g ∧ W1.heap.size = g + 1 from by
    rw [← hW1, ← hg]; exact ⟨(Below.refl _ _).alloc (Nat.le_refl _) _, heap_alloc_new _ _, rfl, by simp⟩)
  have HO1 := Lib.hid (h.below HB1.out.1)
  have HH := Lib.hid h
  clear h he hfl ehv hhn
  go_enter Try.func47, Try.ntmps47
  go_wp2_with (rw [hW1])
  clear hW1
  refine wp_region_table 10 [6, 7, 8, 9, 10, 11, 12, 13, 14, 5] [[], [(0, 6)], [(1, 7)], [], [], [(4, 10)], [(5, 11)], [(6, 12)], [(2, 8), (3, 9), (7, 13)], []]
    (fun i v w' => match i with
      | 0 => v = .pointer (some ⟨y.p, 0, none⟩)
      | 1 => v = .int .i64 ef
      | 2 => v = .int .i64 fl
      | 3 => v = .int .i64 id
      | 4 => v = .pointer (some ⟨y.p, 0, none⟩)
      | 5 => v = .pointer (some ⟨y.p, 0, none⟩)
      | 6 => v = .pointer (some ⟨y.p, 1, none⟩)
      | 7 => v = .slice ah hn ch
      | 8 => v = .agg #[.int .i64 1, .int .i64 fl, .int .i64 id, .slice ah hn ch]
      | 9 => ∃ X, v = .pointer (some ⟨X, 0, none⟩) ∧ W1.heap.size ≤ X ∧ w'.heap[X]? = some (.cells #[.int .i64 0, .int .i64 0, .int .i64 0, .slice none 0 0] 34 (0, 0))
      | _ => True) (by kernel_rfl) (by kernel_rfl) ?tStab ?tOps ?tRest
  case tStab =>
    intro i v w3 w4 h hb
    match i, h with
    | 0, h | 1, h | 2, h | 3, h | 4, h | 5, h | 6, h | 7, h | 8, h => exact h
    | 9, h => obtain ⟨X, e, h1, h2⟩ := h; exact ⟨X, e, h1, (hb.block X (Array.getElem?_eq_some_iff.1 h2).1).trans h2⟩
    | i + 10, _ => trivial
  case tOps =>
    simp only [List.take_succ_cons, List.take_zero, opsOk]
    refine ⟨?_, ?_, ?_, ?_, ?_, ?_, ?_, ?_, ?_, ?_, trivial⟩
    · intro ρ w3 hc hf ho hB hj
      have x0 : ρ (.tmp 0) = .pointer (some ⟨y.p, 0, none⟩) := ho 0 (by decide)
      simp [gives, go_sem, x0, Below.refl]
    · intro ρ w3 hc hf ho hB hj
      have x0 : ρ (.tmp 6) = .pointer (some ⟨y.p, 0, none⟩) := hj (0, 6) (by simp)
      simp [gives, go_sem, x0, hf]
      exact (end20_any y w3 (HO1.out.below hB)).mono fun e w' ⟨h1, m, h2⟩ => ⟨.int .i64 ef, by rw [h1, HE.out], rfl, by rw [h2]; exact below_drewN (Below.refl _ _) m⟩
    · intro ρ w3 hc hf ho hB hj
      have x0 : ρ (.tmp 7) = .int .i64 ef := hj (1, 7) (by simp)
      have i1 := HF.out
      simp [gives, go_sem, x0, hc, i1, Below.refl]
    · intro ρ w3 hc hf ho hB hj
      have x0 : ρ (.tmp 1) = .int .i64 id := ho 1 (by decide)
      simp [gives, go_sem, x0, Below.refl]
    · intro ρ w3 hc hf ho hB hj
      have x0 : ρ (.tmp 0) = .pointer (some ⟨y.p, 0, none⟩) := ho 0 (by decide)
      simp [gives, go_sem, x0, Below.refl]
    · intro ρ w3 hc hf ho hB hj
      have x0 : ρ (.tmp 10) = .pointer (some ⟨y.p, 0, none⟩) := hj (4, 10) (by simp)
      simp [gives, go_sem, x0, Below.refl]
    · intro ρ w3 hc hf ho hB hj
      have x0 : ρ (.tmp 11) = .pointer (some ⟨y.p, 0, none⟩) := hj (5, 11) (by simp)
      simp [gives, go_sem, x0, Below.refl]
    · intro ρ w3 hc hf ho hB hj
      have x0 : ρ (.tmp 12) = .pointer (some ⟨y.p, 1, none⟩) := hj (6, 12) (by simp)
      obtain ⟨f0, f1, f2, f3, f4, f5, f6, f7⟩ := (HO1.out.below hB).blk.cells
      rw [HHv.out] at f1
      simp [gives, go_sem, x0, f1, Below.refl]
    · intro ρ w3 hc hf ho hB hj
      have x0 : ρ (.tmp 8) = .int .i64 fl := hj (2, 8) (by simp)
      have x1 : ρ (.tmp 9) = .int .i64 id := hj (3, 9) (by simp)
      have x2 : ρ (.tmp 13) = .slice ah hn ch := hj (7, 13) (by simp)
      simp [gives, go_sem, x0, x1, x2, hc, Below.refl]
    · intro ρ w3 hc hf ho hB hj
      simp [gives, go_sem]
      exact ⟨⟨hB.size, (Array.getElem?_eq_some_iff.1 (heap_alloc_new _ _)).2⟩, (Below.refl _ _).alloc (Nat.le_refl _) _⟩
  case tRest =>
    intro X w3 hBw hX
    have x0 : X 0 = .pointer (some ⟨y.p, 0, none⟩) := hX 0 (by decide)
    have x1 : X 1 = .int .i64 ef := hX 1 (by decide)
    have x2 : X 2 = .int .i64 fl := hX 2 (by decide)
    have x3 : X 3 = .int .i64 id := hX 3 (by decide)
    have x4 : X 4 = .pointer (some ⟨y.p, 0, none⟩) := hX 4 (by decide)
    have x5 : X 5 = .pointer (some ⟨y.p, 0, none⟩) := hX 5 (by decide)
    have x6 : X 6 = .pointer (some ⟨y.p, 1, none⟩) := hX 6 (by decide)
    have x7 : X 7 = .slice ah hn ch := hX 7 (by decide)
    have x8 : X 8 = .agg #[.int .i64 1, .int .i64 fl, .int .i64 id, .slice ah hn ch] := hX 8 (by decide)
    have x9 := hX 9 (by decide)
    simp only [putAll, List.getD_cons_zero, List.getD_cons_succ, Act.put, List.setIfInBounds_toArray, List.set_cons_zero, List.set_cons_succ, List.drop_succ_cons, List.drop_zero]
    rw [x0, x1, x2, x3, x4, x5, x6, x7, x8]
    obtain ⟨X, e9, hX1, hX2⟩ := x9
    rw [e9]
    have HX := Lib.hid (And.intro hX1 (And.intro hX2 hBw))
    clear x0 x1 x2 x3 x4 x5 x6 x7 x8 e9 hX1 hX2 hX hBw
    have HO3 := Lib.hid (HO1.out.below HX.out.2.2)
    have hpX : y.p < X := by have := HO1.out.blk.lt; have := HX.out.1; omega
    have hpg : y.p < g := by have := HH.out.blk.lt; have := HB1.out.2.2.1; omega
    have hgX : g < X := by have := HB1.out.2.2.2; have := HX.out.1; omega
    have HR := Lib.hid (And.intro hpX (And.intro hpg hgX))
    obtain ⟨Wa, hWa⟩ : ∃ Wa, w3.setRow X #[.int .i64 1, .int .i64 fl, .int .i64 id, .slice ah hn ch] = Wa := ⟨_, rfl⟩
    have HTa := Lib.hid (show Turn (fun k => k = X) w3 Wa by rw [← hWa]; exact Turn.of_grown (setRow_grown _ _ _))
    have HXa := Lib.hid (show Wa.heap[X]? = some (.cells #[.int .i64 1, .int .i64 fl, .int .i64 id, .slice ah hn ch] 34 (0, 0)) by rw [← hWa]; exact setRow_heap _ _ _ _ _ _ HX.out.2.1)
    have HOa := Lib.hid (HO3.out.turn HTa.out (fun k hk e => by have e' : k = X := e; have := HO1.out.lt hk; have := HX.out.1; omega))
    have hs0 : StStep w (Wa.setCell ⟨y.p, 1, none⟩ (.slice none 0 0)) y { y with x := { y.x with head := [] }, hv := .slice none 0 0 } := by
      have ht := turn_set19 (W := Wa) y.p 1 (.slice none 0 0)
      have hb13 := HB1.out.1.trans (HX.out.2.2.mono HB1.out.1.size)
      refine ⟨⟨heap_setCell_same _ y.p 1 _ _ _ HOa.out.blk, Sl.nil _ _, owned_turn HOa.out.own ht HOa.out.nc, HOa.out.sl.turn ht HOa.out.nc, HOa.out.b, HOa.out.le, HOa.out.nc, fun h1 => absurd rfl h1⟩, ((Turn.of_below hb13).trans' HTa.out (fun k hk e => by have e' : k = X := e; have := HB1.out.2.2.1; omega)).trans' ht (fun k _ hk => .inl hk), fun k hk => ?_, rfl, rfl⟩
      rcases hk with hk | ⟨h1, _⟩
      · exact .inl (.inl hk)
      · exact absurd rfl h1
    have HS := Lib.hid (hs0.setN (y' := { y with x := { y.x with head := [], waits := false }, hv := .slice none 0 0 }) 3 (.bool false) rfl rfl rfl ⟨rfl, rfl, rfl, rfl, rfl, rfl⟩)
    have HTb := Lib.hid (show Turn (fun k => k = y.p) Wa ((Wa.setCell ⟨y.p, 1, none⟩ (.slice none 0 0)).setCell ⟨y.p, 3, none⟩ (.bool false)) from (turn_set19 _ _ _).trans (turn_set19 _ _ _))
    have HXb := Lib.hid (HTb.out.obj HXa.out (fun e => by have e' : X = y.p := e; omega))
    have HGb := Lib.hid (HTb.out.obj (HTa.out.obj ((HX.out.2.2.block g (by have := HB1.out.2.2.2; omega)).trans HB1.out.2.1) (fun e => by have e' : g = X := e; omega)) (fun e => by have e' : g = y.p := e; omega))
    have HSl := Lib.hid (show Sl .u8 ((Wa.setCell ⟨y.p, 1, none⟩ (.slice none 0 0)).setCell ⟨y.p, 3, none⟩ (.bool false)) y.hv y.x.head from HOa.out.hd.turn0 HTb.out (fun h1 k hk e => (HH.out.nh h1 k hk).1 e))
    have j1 := blk_cell (j := 1) HOa.out.blk rfl
    have j3 := blk_cell (j := 3) HOa.out.blk rfl
    have k1 := blk_free (j := 1) HOa.out.blk
    have k3 := blk_free (j := 3) HOa.out.blk
    have l1 := HOa.out.blk.lt
    have a0 := blk_cell (j := 0) HXa.out rfl
    have a1 := blk_cell (j := 1) HXa.out rfl
    have a2 := blk_cell (j := 2) HXa.out rfl
    have a3 := blk_cell (j := 3) HXa.out rfl
    have hXp : ¬ X = y.p := by omega
    have hpX2 : ¬ y.p = X := by omega
    clear hs0 hpX hpg hgX
    go_wp2_with (first
      | (refine store_fr13 rfl (.tmp 5) (.tmp 14) rfl X ⟨1, fl, id, y.x.head⟩ ah hn ch _ rfl rfl HX.out.2.1 rfl ?_; rw [hWa])
      | (refine store_fr13 rfl (.tmp 4) (.tmp 21) rfl g ⟨1, fl, id, y.x.head⟩ ah hn ch _ rfl rfl HGb.out rfl ?_))
    have HZ := Lib.hid (setRow_heap _ g _ #[.int .i64 1, .int .i64 fl, .int .i64 id, .slice ah hn ch] _ _ HGb.out)
    refine bodyPost_ret (results_row0 rfl _ _ g 34 #[.int .i64 1, .int .i64 fl, .int .i64 id, .slice ah hn ch] (0, 0) _ rfl HZ.out Try.underlying34 rfl (by kernel_rfl)) rfl ?_
    have htz : Turn (fun k => k = g) ((Wa.setCell ⟨y.p, 1, none⟩ (.slice none 0 0)).setCell ⟨y.p, 3, none⟩ (.bool false)) (((Wa.setCell ⟨y.p, 1, none⟩ (.slice none 0 0)).setCell ⟨y.p, 3, none⟩ (.bool false)).setRow g #[.int .i64 1, .int .i64 fl, .int .i64 id, .slice ah hn ch]) := Turn.of_grown (setRow_grown _ _ _)
    have hgw := HB1.out.2.2.1
    refine ⟨by rw [HHv.out], HSl.out.turn0 htz (fun h1 k hk e => by have e' : k = g := e; have := HH.out.lt (.inr ⟨h1, hk⟩); omega), _, HS.out.far htz (fun k hk => by
      have e' : k = g := hk
      refine ⟨by omega, fun e => ?_⟩
      rcases e with e | ⟨h1, _⟩
      · have := HH.out.lt (show EtB y k from .inl e); omega
      · exact absurd rfl h1), rfl⟩
/-- a stream whose bytes that went may be more than those that wait -/
structure StW (W : World) (y : Et) : Prop where
  blk : EtBlk W y
  hd : Sl .u8 W y.hv y.x.head
  own : W.ownsRow 0 5 1 y.cv y.cs.length (y.cs.map (Value.int .u8))
  sl : Sl .u8 W y.cv y.cs
  b : y.cs.drop y.went = y.x.b
  wl : y.went ≤ y.cs.length
  nc : ∀ g, y.cv.ownBlock = some g → g ≠ y.p
  nh : y.x.head ≠ [] → ∀ g, y.hv.ownBlock = some g → g ≠ y.p ∧ y.cv.ownBlock ≠ some g
theorem StO.weak {W : World} {y : Et} (h : StO W y) : StW W y := ⟨h.blk, h.hd, h.own, h.sl, h.b, h.len.2, h.nc, h.nh⟩
theorem StW.strong {W : World} {y : Et} (h : StW W y) (hl : y.went ≤ y.x.b.length) : StO W y := ⟨h.blk, h.hd, h.own, h.sl, h.b, hl, h.nc, h.nh⟩
theorem StW.lt {W : World} {y : Et} (h : StW W y) {g : Nat} (hg : EtB y g) : g < W.heap.size := by
  rcases hg with (rfl | hg) | ⟨h1, hg⟩
  · exact h.blk.lt
  · exact (h.own.lt g hg).2
  · exact h.hd.lt0 h1 hg
theorem StW.turn {W W' : World} {y : Et} {S : Nat → Prop} (h : StW W y) (ht : Turn S W W') (h0 : ∀ g, EtB y g → ¬ S g) : StW W' y :=
  ⟨ht.obj h.blk (h0 _ (.inl (.inl rfl))), h.hd.turn0 ht (fun h1 g hg => h0 g (.inr ⟨h1, hg⟩)), owned_turn h.own ht (fun g hg => h0 g (.inl (.inr hg))), h.sl.turn ht (fun g hg => h0 g (.inl (.inr hg))), h.b, h.wl, h.nc, h.nh⟩
theorem StW.below {W W' : World} {y : Et} (h : StW W y) (hb : Below W.heap.size W W') : StW W' y := h.turn (Turn.of_below hb (S := fun _ => False)) (fun _ _ => id)
theorem StW.len {W : World} {y : Et} (h : StW W y) : y.cs.length = y.went + y.x.b.length := by
  have h1 := h.wl
  have h2 := congrArg List.length h.b
  rw [List.length_drop] at h2
  omega
theorem sizeW20_any (y : Et) (w : World) (h : StW w y) : Calls Try.prog 38 #[.pointer (some ⟨y.p, 5, none⟩)] w fun e w' => e = .returned (.int .i64 (y.x.b.length : Nat)) ∧ ∃ n, w' = w.drewN n := by
  obtain ⟨f0, f1, f2, f3, f4, f5, f6, f7⟩ := h.blk.cells
  have hl := h.len
  obtain ⟨a, c, ecv, _⟩ := id h.sl
  rw [ecv] at f5
  have hle := h.wl
  have hml := h.sl.len
  unfold maxLen at hml
  have HD := Lib.hid (show ((y.x.b.length : Nat) : Int) = (y.cs.length : Int) - y.went by omega)
  clear h ecv hl
  go_enter Try.func38, Try.ntmps38
  go_wp2_with fail
  go_quiet (fail)
  go_wp2_with fail
  go_ret
  exact ⟨by rw [HD.out]; rfl, _, rfl⟩
/-- how many bytes are taken -/
def takeN (n : Int) (l : Nat) : Nat := if (l : Int) ≤ n then l else n.toNat
set_option maxHeartbeats 8000000 in
theorem take20_any (y : Et) (n : Int) (w : World) (h : StO w y) (hn0 : 0 ≤ n) (hc : y.x.b.length ≤ 1000000) :
    Calls Try.prog 62 #[.pointer (some ⟨y.p, 5, none⟩), .int .i64 n] w fun e w' =>
      ∃ bv, e = .returned bv ∧ Sl .u8 w' bv (y.x.b.take (takeN n y.x.b.length)) ∧ ∃ y', (∀ g, bv.ownBlock = some g → w.heap.size ≤ g ∧ ¬ EtB y' g) ∧ StStep w w' y y' ∧ y'.x = { y.x with b := y.x.b.drop (takeN n y.x.b.length) } := by
  obtain ⟨k, rfl⟩ : ∃ k : Nat, n = k := ⟨n.toNat, by omega⟩
  obtain ⟨r, hr⟩ : ∃ r, y.x.b.length = r := ⟨_, rfl⟩
  obtain ⟨d, hd⟩ : ∃ d, takeN (k : Int) r = d := ⟨_, rfl⟩
  have hd2 : d ≤ r ∧ (k ≤ r → d = k) ∧ (r ≤ k → d = r) := by
    unfold takeN at hd
    split at hd <;> omega
  have HMn := Lib.hid (show min (k : Int) (r : Int) = (d : Int) by omega)
  have hlen := size20_any y w h
  obtain ⟨hl1, hl2⟩ := h.len
  have hle := h.le
  rw [hr] at hlen hc hl1 hle ⊢
  rw [hd]
  obtain ⟨went, hwent⟩ : ∃ went, y.went = went := ⟨_, rfl⟩
  rw [hwent] at hl1 hl2 hle
  obtain ⟨m, hm⟩ : ∃ m, went + d = m := ⟨_, rfl⟩
  obtain ⟨a, c, ecv, _⟩ := id h.sl
  obtain ⟨L, hL⟩ : ∃ L, y.cs.length = L := ⟨_, rfl⟩
  rw [hL] at hl1 hl2 ecv
  have hsl : Sl .u8 w (.slice a L c) y.cs := by rw [← ecv]; exact h.sl
  obtain ⟨vr, hrun, hvr⟩ := hsl.range Try.sliceD20 Try.sizeD20 (went : Int) (m : Int) (by omega) (by omega) (by omega)
  obtain ⟨zs, hzs⟩ : ∃ zs, y.x.b.take d = zs := ⟨_, rfl⟩
  rw [Int.toNat_natCast, Int.toNat_natCast, show (y.cs.take m).drop went = zs from by rw [List.drop_take, ← hwent, h.b, ← hzs]; congr 1; omega] at hvr
  obtain ⟨qs, hqs⟩ : ∃ qs, y.x.b.drop d = qs := ⟨_, rfl⟩
  rw [hzs, hqs]
  have hql : qs.length = r - d := by rw [← hqs, List.length_drop, hr]
  have hzl : zs.length = d := by rw [← hzs, List.length_take]; omega
  have HQ := Lib.hid (show y.cs.drop m = qs ∧ went + d = m ∧ L = went + r ∧ d ≤ r ∧ r ≤ 1000000 ∧ went ≤ r ∧ y.cs.length = L ∧ y.went = went ∧ y.cv = .slice a L c ∧ qs.length = r - d from ⟨by rw [← hm, ← List.drop_drop, ← hwent, h.b, hqs], hm, hl1, hd2.1, hc, hle, hL, hwent, ecv, hql⟩)
  have HO := Lib.hid h
  have HZ := Lib.hid (show zs.length = d ∧ zs.length ≤ 1000000000 from ⟨hzl, by omega⟩)
  have HVr := Lib.hid (And.intro hrun hvr)
  have HM := Lib.hid (show ((went : Int) + (d : Int)) = (m : Int) ∧ IntKind.i64.wrap (m : Int) = (m : Int) from ⟨by omega, wrap_i64_small (by omega) (by omega)⟩)
  clear h hr hd hwent hL ecv hsl hrun hvr hzs hqs hzl hl1 hl2 hle hql hm
  go_enter Try.func62, Try.ntmps62
  go_wp2_with fail
  refine hlen.mono ?_
  rintro e w2 ⟨rfl, nn, rfl⟩
  have HB := Lib.hid (below_drewN (Below.refl w.heap.size w) nn)
  clear hlen
  go_wp2_with fail
  rw [HMn.out]
  have HO2 := Lib.hid (HO.out.below HB.out)
  have HVf := Lib.hid (And.intro HVr.out.1 (HVr.out.2.below HB.out))
  have HSz := Lib.hid HB.out
  generalize w.drewN nn = W2 at HO2 HVf HSz ⊢
  clear HB HVr
  refine wp_region_table 16 [11, 12, 13, 14, 15, 16, 17, 18, 19, 20, 21, 22, 23, 24, 25, 26] [[], [(0, 11)], [(1, 12)], [(2, 13)], [], [(4, 15)], [(5, 16)], [(6, 17)], [], [(8, 19)], [(9, 20)], [(10, 21)], [], [(11, 22), (12, 23)], [(3, 14), (7, 18), (13, 24)], [(14, 25)]]
    (fun i v w' => match i with
      | 0 => v = .pointer (some ⟨y.p, 5, none⟩)
      | 1 => v = .pointer (some ⟨y.p, 5, none⟩)
      | 2 => v = .pointer (some ⟨y.p, 5, none⟩)
      | 3 => v = .slice a L c
      | 4 => v = .pointer (some ⟨y.p, 5, none⟩)
      | 5 => v = .pointer (some ⟨y.p, 5, none⟩)
      | 6 => v = .pointer (some ⟨y.p, 6, none⟩)
      | 7 => v = .int .i64 (went : Int)
      | 8 => v = .pointer (some ⟨y.p, 5, none⟩)
      | 9 => v = .pointer (some ⟨y.p, 5, none⟩)
      | 10 => v = .pointer (some ⟨y.p, 6, none⟩)
      | 11 => v = .int .i64 (went : Int)
      | 12 => v = .int .i64 (d : Int)
      | 13 => v = .int .i64 (m : Int)
      | 14 => Sl .u8 w' v zs
      | 15 => Cpy W2.heap.size zs v w'
      | _ => True) (by kernel_rfl) (by kernel_rfl) ?tStab ?tOps ?tRest
  case tStab =>
    intro i v w3 w4 h hb
    match i, h with
    | 0, h | 1, h | 2, h | 3, h | 4, h | 5, h | 6, h | 7, h | 8, h | 9, h | 10, h | 11, h | 12, h | 13, h => exact h
    | 14, h => exact Sl.below h hb
    | 15, h => exact Cpy.below h hb
    | i + 16, _ => trivial
  case tOps =>
    simp only [List.take_succ_cons, List.take_zero, opsOk]
    refine ⟨?_, ?_, ?_, ?_, ?_, ?_, ?_, ?_, ?_, ?_, ?_, ?_, ?_, ?_, ?_, ?_, trivial⟩
    · intro ρ w3 hc hf ho hB hj
      have x0 : ρ (.tmp 0) = .pointer (some ⟨y.p, 5, none⟩) := ho 0 (by decide)
      simp [gives, go_sem, x0, Below.refl]
    · intro ρ w3 hc hf ho hB hj
      have x0 : ρ (.tmp 11) = .pointer (some ⟨y.p, 5, none⟩) := hj (0, 11) (by simp)
      simp [gives, go_sem, x0, Below.refl]
    · intro ρ w3 hc hf ho hB hj
      have x0 : ρ (.tmp 12) = .pointer (some ⟨y.p, 5, none⟩) := hj (1, 12) (by simp)
      simp [gives, go_sem, x0, Below.refl]
    · intro ρ w3 hc hf ho hB hj
      have x0 : ρ (.tmp 13) = .pointer (some ⟨y.p, 5, none⟩) := hj (2, 13) (by simp)
      obtain ⟨f0, f1, f2, f3, f4, f5, f6, f7⟩ := (HO2.out.below hB).blk.cells
      rw [HQ.out.2.2.2.2.2.2.2.2.1] at f5
      rw [HQ.out.2.2.2.2.2.2.2.1] at f6
      simp [gives, go_sem, x0, f5, Below.refl]
    · intro ρ w3 hc hf ho hB hj
      have x0 : ρ (.tmp 0) = .pointer (some ⟨y.p, 5, none⟩) := ho 0 (by decide)
      simp [gives, go_sem, x0, Below.refl]
    · intro ρ w3 hc hf ho hB hj
      have x0 : ρ (.tmp 15) = .pointer (some ⟨y.p, 5, none⟩) := hj (4, 15) (by simp)
      simp [gives, go_sem, x0, Below.refl]
    · intro ρ w3 hc hf ho hB hj
      have x0 : ρ (.tmp 16) = .pointer (some ⟨y.p, 5, none⟩) := hj (5, 16) (by simp)
      simp [gives, go_sem, x0, Below.refl]
    · intro ρ w3 hc hf ho hB hj
      have x0 : ρ (.tmp 17) = .pointer (some ⟨y.p, 6, none⟩) := hj (6, 17) (by simp)
      obtain ⟨f0, f1, f2, f3, f4, f5, f6, f7⟩ := (HO2.out.below hB).blk.cells
      rw [HQ.out.2.2.2.2.2.2.2.2.1] at f5
      rw [HQ.out.2.2.2.2.2.2.2.1] at f6
      simp [gives, go_sem, x0, f6, Below.refl]
    · intro ρ w3 hc hf ho hB hj
      have x0 : ρ (.tmp 0) = .pointer (some ⟨y.p, 5, none⟩) := ho 0 (by decide)
      simp [gives, go_sem, x0, Below.refl]
    · intro ρ w3 hc hf ho hB hj
      have x0 : ρ (.tmp 19) = .pointer (some ⟨y.p, 5, none⟩) := hj (8, 19) (by simp)
      simp [gives, go_sem, x0, Below.refl]
    · intro ρ w3 hc hf ho hB hj
      have x0 : ρ (.tmp 20) = .pointer (some ⟨y.p, 5, none⟩) := hj (9, 20) (by simp)
      simp [gives, go_sem, x0, Below.refl]
    · intro ρ w3 hc hf ho hB hj
      have x0 : ρ (.tmp 21) = .pointer (some ⟨y.p, 6, none⟩) := hj (10, 21) (by simp)
      obtain ⟨f0, f1, f2, f3, f4, f5, f6, f7⟩ := (HO2.out.below hB).blk.cells
      rw [HQ.out.2.2.2.2.2.2.2.2.1] at f5
      rw [HQ.out.2.2.2.2.2.2.2.1] at f6
      simp [gives, go_sem, x0, f6, Below.refl]
    · intro ρ w3 hc hf ho hB hj
      have x0 : ρ (.tmp 5) = .int .i64 (d : Int) := ho 5 (by decide)
      simp [gives, go_sem, x0, Below.refl]
    · intro ρ w3 hc hf ho hB hj
      have x0 : ρ (.tmp 22) = .int .i64 (went : Int) := hj (11, 22) (by simp)
      have x1 : ρ (.tmp 23) = .int .i64 (d : Int) := hj (12, 23) (by simp)
      have i1 := HM.out.1
      have i2 := HM.out.2
      simp [gives, go_sem, x0, x1, i1, i2, Below.refl]
    · intro ρ w3 hc hf ho hB hj
      have x0 : ρ (.tmp 14) = .slice a L c := hj (3, 14) (by simp)
      have x1 : ρ (.tmp 18) = .int .i64 (went : Int) := hj (7, 18) (by simp)
      have x2 : ρ (.tmp 24) = .int .i64 (m : Int) := hj (13, 24) (by simp)
      have i1 := HVf.out.1 .i64 .i64
      simp [gives, go_sem, x0, x1, x2, i1]
      exact ⟨HVf.out.2.below hB, Below.refl _ _⟩
    · intro ρ w3 hc hf ho hB hj
      have x0 : Sl .u8 w3 (ρ (.tmp 25)) zs := hj (14, 25) (by simp)
      obtain ⟨gv, hgv⟩ : ∃ gv, ρ (.tmp 25) = gv := ⟨_, rfl⟩
      rw [hgv] at x0
      simp [gives, go_sem, hf, hgv]
      exact (clone20_any _ zs w3 x0 HZ.out.2).mono fun e w' ⟨v, h1, h2, h3⟩ => ⟨v, h1, h2.mono hB.size, h3⟩
  case tRest =>
    intro X w3 hBw hX
    have x0 : X 0 = .pointer (some ⟨y.p, 5, none⟩) := hX 0 (by decide)
    have x1 : X 1 = .pointer (some ⟨y.p, 5, none⟩) := hX 1 (by decide)
    have x2 : X 2 = .pointer (some ⟨y.p, 5, none⟩) := hX 2 (by decide)
    have x3 : X 3 = .slice a L c := hX 3 (by decide)
    have x4 : X 4 = .pointer (some ⟨y.p, 5, none⟩) := hX 4 (by decide)
    have x5 : X 5 = .pointer (some ⟨y.p, 5, none⟩) := hX 5 (by decide)
    have x6 : X 6 = .pointer (some ⟨y.p, 6, none⟩) := hX 6 (by decide)
    have x7 : X 7 = .int .i64 (went : Int) := hX 7 (by decide)
    have x8 : X 8 = .pointer (some ⟨y.p, 5, none⟩) := hX 8 (by decide)
    have x9 : X 9 = .pointer (some ⟨y.p, 5, none⟩) := hX 9 (by decide)
    have x10 : X 10 = .pointer (some ⟨y.p, 6, none⟩) := hX 10 (by decide)
    have x11 : X 11 = .int .i64 (went : Int) := hX 11 (by decide)
    have x12 : X 12 = .int .i64 (d : Int) := hX 12 (by decide)
    have x13 : X 13 = .int .i64 (m : Int) := hX 13 (by decide)
    have x14 := hX 14 (by decide)
    have x15 := hX 15 (by decide)
    simp only [putAll, List.getD_cons_zero, List.getD_cons_succ, Act.put, List.setIfInBounds_toArray, List.set_cons_zero, List.set_cons_succ, List.drop_succ_cons, List.drop_zero]
    rw [x0, x1, x2, x3, x4, x5, x6, x7, x8, x9, x10, x11, x12, x13]
    obtain ⟨hc1, hc2⟩ := x15
    obtain ⟨ab, cb, e15, _⟩ := id hc2
    rw [e15] at hc1 hc2 ⊢
    have HC := Lib.hid (And.intro hc1 hc2)
    have HW3 := Lib.hid (HO2.out.weak.below hBw)
    have HB3 := Lib.hid (HSz.out.trans (hBw.mono HSz.out.size))
    have HS3 := Lib.hid hBw.size
    clear hBw hX hc1 hc2 x0 x1 x2 x3 x4 x5 x6 x7 x8 x9 x10 x11 x12 x13 x14 e15
    obtain ⟨f0, f1, f2, f3, f4, f5, f6, f7⟩ := HW3.out.blk.cells
    rw [HQ.out.2.2.2.2.2.2.2.1] at f6
    have e6 := HW3.out.blk.free 6
    have hmi := HM.out.1
    have hwl : went ≤ 1000000 := by have := HQ.out; omega
    have hdl : d ≤ 1000000 := by have := HQ.out; omega
    go_wp2_with fail
    have ht4 := turn_set19 (W := w3) y.p 6 (.int .i64 (m : Int))
    have HW4 := Lib.hid (show StW (w3.setCell ⟨y.p, 6, none⟩ (.int .i64 (m : Int))) ⟨{ y.x with b := qs }, y.p, y.hv, y.cv, y.cs, m⟩ from ⟨heap_setCell_same _ y.p 6 _ _ _ HW3.out.blk, HW3.out.hd.turn0 ht4 (fun h1 g hg => (HW3.out.nh h1 g hg).1), owned_turn HW3.out.own ht4 HW3.out.nc, HW3.out.sl.turn ht4 HW3.out.nc, HQ.out.1, by have := HQ.out; show m ≤ y.cs.length; omega, HW3.out.nc, HW3.out.nh⟩)
    have HT4 := Lib.hid (show Turn (EtT y) w (w3.setCell ⟨y.p, 6, none⟩ (.int .i64 (m : Int))) from (Turn.of_below HB3.out).trans' ht4 (fun k _ hk => .inl hk))
    have HC4 := Lib.hid (show Sl .u8 (w3.setCell ⟨y.p, 6, none⟩ (.int .i64 (m : Int))) (.slice ab zs.length cb) zs ∧ (∀ g, (Value.slice ab zs.length cb).ownBlock = some g → w.heap.size ≤ g ∧ g < w3.heap.size) from by
      have hbl : ∀ g, (Value.slice ab zs.length cb).ownBlock = some g → w.heap.size ≤ g ∧ g < w3.heap.size := fun g hg => ⟨Nat.le_trans HSz.out.size (HC.out.1.lt g hg).1, (HC.out.1.lt g hg).2⟩
      exact ⟨HC.out.2.turn ht4 (fun g hg e => by have := hbl g hg; have := HO.out.blk.lt; have e' : g = y.p := e; omega), hbl⟩)
    have HS4 := Lib.hid (show w3.heap.size ≤ (w3.setCell ⟨y.p, 6, none⟩ (.int .i64 (m : Int))).heap.size from ht4.size)
    clear ht4 f0 f1 f2 f3 f4 f5 f6 f7 e6 hmi
    generalize w3.setCell ⟨y.p, 6, none⟩ (.int .i64 (m : Int)) = w4 at HW4 HT4 HC4 HS4 ⊢
    obtain ⟨g0, g1, g2, g3, g4, g5, g6, g7⟩ := HW4.out.blk.cells
    dsimp only at g6
    obtain ⟨r1, hr1⟩ : ∃ r1, qs.length = r1 := ⟨_, rfl⟩
    have HLn : Hid (∀ k, Calls Try.prog 38 #[.pointer (some ⟨y.p, 5, none⟩)] (w4.drewN k) fun e w' => e = .returned (.int .i64 (r1 : Int)) ∧ ∃ m, w' = (w4.drewN k).drewN m) := Lib.hid (by
      intro k
      have h1 := sizeW20_any _ (w4.drewN k) (HW4.out.below (below_drewN (Below.refl _ _) k))
      dsimp only at h1
      rw [hr1] at h1
      exact h1)
    have HR1 := Lib.hid hr1
    clear hr1
    by_cases h1 : r1 ≤ m
    · have d1 : decide ((r1 : Int) ≤ (m : Int)) = true := decide_eq_true (by omega)
      have d2 : decide (r1 ≤ m) = true := decide_eq_true h1
      clear h1
      go_quiet ((go_at_call 38; exact Calls.quiet_of (HLn.out _)))
      go_wp2_with fail
      have HW5 := Lib.hid (HW4.out.below (below_drewN (Below.refl _ _) nq))
      have HT5 := Lib.hid (HT4.out.trans (Turn.of_below (below_drewN (Below.refl _ _) nq)))
      have HC5 := Lib.hid (show Sl .u8 (w4.drewN nq) (.slice ab zs.length cb) zs from HC4.out.1.below (below_drewN (Below.refl _ _) nq))
      have HS5 := Lib.hid (Nat.le_trans HS4.out (below_drewN (Below.refl w4.heap.size w4) nq).size)
      generalize w4.drewN nq = W5 at HW5 HT5 HC5 HS5 ⊢
      clear g0 g1 g2 g3 g4 g5 g6 g7 HLn d1 d2
      have hsl5 : Sl .u8 W5 (.slice a L c) y.cs := by rw [← HQ.out.2.2.2.2.2.2.2.2.1]; exact HW5.out.sl
      obtain ⟨vr, hrun, hvr⟩ := hsl5.from_ Try.sliceD20 Try.sizeD20 (m : Int) (by omega) (by have := HQ.out; show (m : Int) ≤ (y.cs.length : Int); omega)
      rw [Int.toNat_natCast, HQ.out.1] at hvr
      have HVe := Lib.hid (And.intro hrun hvr)
      clear hrun hvr hsl5
      refine wp_region_late 14 [42, 43, 44, 45, 46, 47, 48, 49, 50, 51, 52, 53, 54, 55] [[], [], [], [(2, 44)], [(3, 45)], [(4, 46)], [], [(6, 48)], [(7, 49)], [(8, 50)], [(5, 47), (9, 51)], [(10, 52)], [(0, 42)], [(12, 54)]] [1]
        (fun i v w' => match i with
          | 0 => v = .pointer (some ⟨y.p, 5, none⟩)
          | 1 => v = .pointer (some ⟨y.p, 5, none⟩)
          | 2 => v = .pointer (some ⟨y.p, 5, none⟩)
          | 3 => v = .pointer (some ⟨y.p, 5, none⟩)
          | 4 => v = .pointer (some ⟨y.p, 5, none⟩)
          | 5 => v = .slice a L c
          | 6 => v = .pointer (some ⟨y.p, 5, none⟩)
          | 7 => v = .pointer (some ⟨y.p, 5, none⟩)
          | 8 => v = .pointer (some ⟨y.p, 6, none⟩)
          | 9 => v = .int .i64 (m : Int)
          | 10 => Sl .u8 w' v qs
          | 11 => Cpy W5.heap.size qs v w'
          | 12 => v = .pointer (some ⟨y.p, 5, none⟩)
          | 13 => v = .pointer (some ⟨y.p, 5, none⟩)
          | _ => True) (by kernel_rfl) (by kernel_rfl) ?tStab ?tOps ?tLate ?tRest
      case tStab =>
        intro i v w3 w4 h hb
        match i, h with
        | 0, h | 1, h | 2, h | 3, h | 4, h | 5, h | 6, h | 7, h | 8, h | 9, h | 12, h | 13, h => exact h
        | 10, h => exact Sl.below h hb
        | 11, h => exact Cpy.below h hb
        | i + 14, _ => trivial
      case tOps =>
        simp only [List.take_succ_cons, List.take_zero, opsOk]
        refine ⟨?_, ?_, ?_, ?_, ?_, ?_, ?_, ?_, ?_, ?_, ?_, ?_, ?_, ?_, trivial⟩
        · intro ρ w3 hc hf ho hB hj
          have x0 : ρ (.tmp 0) = .pointer (some ⟨y.p, 5, none⟩) := ho 0 (by decide)
          simp [gives, go_sem, x0, Below.refl]
        · intro ρ w3 hc hf ho hB hj
          have x0 : ρ (.tmp 0) = .pointer (some ⟨y.p, 5, none⟩) := ho 0 (by decide)
          simp [gives, go_sem, x0, Below.refl]
        · intro ρ w3 hc hf ho hB hj
          have x0 : ρ (.tmp 0) = .pointer (some ⟨y.p, 5, none⟩) := ho 0 (by decide)
          simp [gives, go_sem, x0, Below.refl]
        · intro ρ w3 hc hf ho hB hj
          have x0 : ρ (.tmp 44) = .pointer (some ⟨y.p, 5, none⟩) := hj (2, 44) (by simp)
          simp [gives, go_sem, x0, Below.refl]
        · intro ρ w3 hc hf ho hB hj
          have x0 : ρ (.tmp 45) = .pointer (some ⟨y.p, 5, none⟩) := hj (3, 45) (by simp)
          simp [gives, go_sem, x0, Below.refl]
        · intro ρ w3 hc hf ho hB hj
          have x0 : ρ (.tmp 46) = .pointer (some ⟨y.p, 5, none⟩) := hj (4, 46) (by simp)
          obtain ⟨f0, f1, f2, f3, f4, f5, f6, f7⟩ := (HW5.out.below hB).blk.cells
          rw [show (Et.cv ⟨{ y.x with b := qs }, y.p, y.hv, y.cv, y.cs, m⟩) = .slice a L c from HQ.out.2.2.2.2.2.2.2.2.1] at f5
          simp [gives, go_sem, x0, f5, Below.refl]
        · intro ρ w3 hc hf ho hB hj
          have x0 : ρ (.tmp 0) = .pointer (some ⟨y.p, 5, none⟩) := ho 0 (by decide)
          simp [gives, go_sem, x0, Below.refl]
        · intro ρ w3 hc hf ho hB hj
          have x0 : ρ (.tmp 48) = .pointer (some ⟨y.p, 5, none⟩) := hj (6, 48) (by simp)
          simp [gives, go_sem, x0, Below.refl]
        · intro ρ w3 hc hf ho hB hj
          have x0 : ρ (.tmp 49) = .pointer (some ⟨y.p, 5, none⟩) := hj (7, 49) (by simp)
          simp [gives, go_sem, x0, Below.refl]
        · intro ρ w3 hc hf ho hB hj
          have x0 : ρ (.tmp 50) = .pointer (some ⟨y.p, 6, none⟩) := hj (8, 50) (by simp)
          obtain ⟨f0, f1, f2, f3, f4, f5, f6, f7⟩ := (HW5.out.below hB).blk.cells
          rw [show (Et.cv ⟨{ y.x with b := qs }, y.p, y.hv, y.cv, y.cs, m⟩) = .slice a L c from HQ.out.2.2.2.2.2.2.2.2.1] at f5
          simp [gives, go_sem, x0, f6, Below.refl]
        · intro ρ w3 hc hf ho hB hj
          have x0 : ρ (.tmp 47) = .slice a L c := hj (5, 47) (by simp)
          have x1 : ρ (.tmp 51) = .int .i64 (m : Int) := hj (9, 51) (by simp)
          have i1 := HVe.out.1 .i64
          simp [gives, go_sem, x0, x1, i1]
          exact ⟨HVe.out.2.below hB, Below.refl _ _⟩
        · intro ρ w3 hc hf ho hB hj
          have x0 : Sl .u8 w3 (ρ (.tmp 52)) qs := hj (10, 52) (by simp)
          obtain ⟨gv, hgv⟩ : ∃ gv, ρ (.tmp 52) = gv := ⟨_, rfl⟩
          rw [hgv] at x0
          simp [gives, go_sem, hf, hgv]
          exact (clone20_any _ qs w3 x0 (by have := HQ.out.2.2.2.2.2.2.2.2.2; have := HQ.out.2.2.2.2.1; omega)).mono fun e w' ⟨v, h1, h2, h3⟩ => ⟨v, h1, h2.mono hB.size, h3⟩
        · intro ρ w3 hc hf ho hB hj
          have x0 : ρ (.tmp 42) = .pointer (some ⟨y.p, 5, none⟩) := hj (0, 42) (by simp)
          simp [gives, go_sem, x0, Below.refl]
        · intro ρ w3 hc hf ho hB hj
          have x0 : ρ (.tmp 54) = .pointer (some ⟨y.p, 5, none⟩) := hj (12, 54) (by simp)
          simp [gives, go_sem, x0, Below.refl]
      case tLate =>
        intro i hi _ o ho
        obtain rfl := List.mem_singleton.1 hi
        obtain rfl := Option.some.inj ho
        intro ρ w3 hc ho _ hj
        have x0 : ρ (.tmp 0) = .pointer (some ⟨y.p, 5, none⟩) := ho 0 (by decide)
        exact ⟨_, fun w' => by simp [go_sem, x0], rfl⟩
      case tRest =>
        intro X w3' hBw hX
        have x0 : X 0 = .pointer (some ⟨y.p, 5, none⟩) := hX 0 (by decide)
        have x1 : X 1 = .pointer (some ⟨y.p, 5, none⟩) := hX 1 (by decide)
        have x2 : X 2 = .pointer (some ⟨y.p, 5, none⟩) := hX 2 (by decide)
        have x3 : X 3 = .pointer (some ⟨y.p, 5, none⟩) := hX 3 (by decide)
        have x4 : X 4 = .pointer (some ⟨y.p, 5, none⟩) := hX 4 (by decide)
        have x5 : X 5 = .slice a L c := hX 5 (by decide)
        have x6 : X 6 = .pointer (some ⟨y.p, 5, none⟩) := hX 6 (by decide)
        have x7 : X 7 = .pointer (some ⟨y.p, 5, none⟩) := hX 7 (by decide)
        have x8 : X 8 = .pointer (some ⟨y.p, 6, none⟩) := hX 8 (by decide)
        have x9 : X 9 = .int .i64 (m : Int) := hX 9 (by decide)
        have x10 := hX 10 (by decide)
        have x11 := hX 11 (by decide)
        have x12 : X 12 = .pointer (some ⟨y.p, 5, none⟩) := hX 12 (by decide)
        have x13 : X 13 = .pointer (some ⟨y.p, 5, none⟩) := hX 13 (by decide)
        simp only [putAll, List.getD_cons_zero, List.getD_cons_succ, Act.put, List.setIfInBounds_toArray, List.set_cons_zero, List.set_cons_succ, List.drop_succ_cons, List.drop_zero]
        rw [x0, x1, x2, x3, x4, x5, x6, x7, x8, x9, x12, x13]
        obtain ⟨hc1, hc2⟩ := x11
        obtain ⟨ac, cc, e11, _⟩ := id hc2
        rw [e11] at hc1 hc2 ⊢
        have HCC := Lib.hid (And.intro hc1 hc2)
        have HW6 := Lib.hid (HW5.out.below hBw)
        have HT6 := Lib.hid (HT5.out.trans (Turn.of_below hBw))
        have HC6 := Lib.hid (HC5.out.below hBw)
        clear hBw hX hc1 hc2 x0 x1 x2 x3 x4 x5 x6 x7 x8 x9 x10 x12 x13 e11
        obtain ⟨f0, f1, f2, f3, f4, f5, f6, f7⟩ := HW6.out.blk.cells
        dsimp only at f5 f6
        rw [HQ.out.2.2.2.2.2.2.2.2.1] at f5
        have k5 := HW6.out.blk.free 5
        have k6 := HW6.out.blk.free 6
        dsimp only at k5 k6 f7
        go_wp2_with fail
        refine Calm.intro ?_
        go_wp2_with fail
        go_ret
        obtain ⟨hc1, hc2⟩ := HCC.out
        have hwp := HO.out.blk.lt
        have hw3 := HC4.out.2
        have hs5 := HS5.out
        have hnw : ∀ g, (Value.slice ac qs.length cc).ownBlock = some g → W5.heap.size ≤ g := fun g hg => (hc1.lt g hg).1
        have h35 : w.heap.size ≤ w3.heap.size := HB3.out.size
        have hne : ∀ g, (Value.slice ac qs.length cc).ownBlock = some g → g ≠ y.p := fun g hg => by have := hnw g hg; omega
        have ht7 := turn_set19 (W := w3') y.p 5 (.slice ac qs.length cc)
        have ht8 := turn_set19 (W := w3'.setCell ⟨y.p, 5, none⟩ (.slice ac qs.length cc)) y.p 6 (.int .i64 0)
        have ht78 := ht7.trans ht8
        have hS : StO ((w3'.setCell ⟨y.p, 5, none⟩ (.slice ac qs.length cc)).setCell ⟨y.p, 6, none⟩ (.int .i64 0)) ⟨{ y.x with b := qs }, y.p, y.hv, .slice ac qs.length cc, qs, 0⟩ :=
          ⟨heap_setCell_same _ y.p 6 _ _ _ (heap_setCell_same _ y.p 5 _ _ _ HW6.out.blk), HW6.out.hd.turn0 ht78 (fun h1 g hg => (HW6.out.nh h1 g hg).1), owned_turn (owned_mono hc1 (Nat.zero_le _)) ht78 hne, hc2.turn ht78 hne, rfl, Nat.zero_le _, hne, fun h1 g hg => ⟨(HW6.out.nh h1 g hg).1, fun e => by have := hnw g e; have := HO.out.lt (.inr ⟨h1, hg⟩); omega⟩⟩
        refine ⟨_, rfl, HC6.out.turn ht78 (fun g hg e => by have e' : g = y.p := e; have := (hw3 g hg).1; omega), _, fun g hg => ⟨(hw3 g hg).1, fun e => ?_⟩, ⟨hS, HT6.out.trans' ht78 (fun k _ hk => .inl hk), fun g hg => ?_, rfl, rfl⟩, rfl⟩
        · have h9 := hw3 g hg
          rcases e with (e | e) | ⟨h1, e⟩
          · have e' : g = y.p := e; omega
          · have := hnw g e; omega
          · have := HO.out.lt (.inr ⟨h1, e⟩); omega
        · rcases hg with (e | e) | e
          · exact .inl (.inl (.inl e))
          · have := hnw g e; exact .inr (by omega)
          · exact .inl (.inr e)
    · have d1 : decide ((r1 : Int) ≤ (m : Int)) = false := decide_eq_false (by omega)
      have d2 : decide (r1 ≤ m) = false := decide_eq_false h1
      have HN1 := Lib.hid h1
      clear h1
      go_quiet ((go_at_call 38; exact Calls.quiet_of (HLn.out _)))
      go_wp2_with fail
      go_ret
      have hb5 := below_drewN (Below.refl w4.heap.size w4) nq
      have hS := (HW4.out.below hb5).strong (by have := HN1.out; have := HR1.out; show m ≤ qs.length; omega)
      refine ⟨_, rfl, HC4.out.1.below hb5, _, fun g hg => ⟨(HC4.out.2 g hg).1, fun e => ?_⟩, ⟨hS, HT4.out.trans (Turn.of_below hb5), fun g hg => .inl hg, rfl, rfl⟩, rfl⟩
      have h9 := (HC4.out.2 g hg).1
      have := HO.out.lt (show EtB y g from e)
      omega
end Go.Proofs.Ytnoegbdmjinfjaa

/-
  Layer 20's program: what a stream's data makes of it.
-/
namespace Go.Proofs.Ytnoegbdmjinfjaa
set_option maxRecDepth 20000
open Go.RowKit

theorem StStep.pre {w W W' : World} {y y' : Et} (h : StStep W W' y y') (hb : Below w.heap.size w W) : StStep w W' y y' :=
  ⟨h.o, (Turn.of_below hb).trans h.t, fun g hg => (h.b g hg).imp_right (fun e => Nat.le_trans hb.size e), h.p, h.i⟩
/-- a stream whose first bytes are taken -/
def dataX (x : Sm) (n : Int) : Sm := { x with b := x.b.drop (takeN n x.b.length), win := (takeW x.win (takeN n x.b.length)).1 }
set_option maxHeartbeats 4000000 in
theorem data20_any (y : Et) (sid n : Int) (w : World) (h : StO w y) (hn0 : 0 ≤ n) (hc : y.x.b.length ≤ 1000000) :
    Calls Try.prog 49 #[.pointer (some ⟨y.p, 0, none⟩), .int .i64 sid, .int .i64 n] w fun e w' =>
      ∃ bv, e = .returned (.agg #[.int .i64 0, .int .i64 (if endB (dataX y.x n) = true then 1 else 0), .int .i64 sid, bv]) ∧ Sl .u8 w' bv (y.x.b.take (takeN n y.x.b.length)) ∧ ∃ y', (∀ g, bv.ownBlock = some g → w.heap.size ≤ g ∧ ¬ EtB y' g) ∧ StStep w w' y y' ∧ y'.x = dataX y.x n := by
  obtain ⟨ef, hef⟩ : ∃ ef : Int, (if endB (dataX y.x n) = true then 1 else 0) = ef := ⟨_, rfl⟩
  have HF := Lib.hid hef
  rw [hef]
  clear hef
  obtain ⟨d, hd⟩ : ∃ d, takeN n y.x.b.length = d := ⟨_, rfl⟩
  have hdl : d ≤ y.x.b.length := by unfold takeN at hd; split at hd <;> omega
  obtain ⟨zs, hzs⟩ : ∃ zs, y.x.b.take d = zs := ⟨_, rfl⟩
  have hzl : zs.length = d := by rw [← hzs, List.length_take]; omega
  obtain ⟨g, hg⟩ : ∃ g, w.heap.size = g := ⟨_, rfl⟩
  obtain ⟨W1, hW1⟩ : ∃ W1, w.alloc (.cells #[.int .i64 0, .int .i64 0, .int .i64 0, .slice none 0 0] 34) = W1 := ⟨_, rfl⟩
  have HB1 := Lib.hid (show Below w.heap.size w W1 ∧ W1.heap[g]? = some (.cells #[.int .i64 0, .int .i64 0, .int .i64 0, .slice none 0 0] 34 (0, 0)) ∧ w.heap.size = g ∧ W1.heap.size = g + 1 from by
    rw [← hW1, ← hg]; exact ⟨(Below.refl _ _).alloc (Nat.le_refl _) _, heap_alloc_new _ _, rfl, by simp⟩)
  have HO1 := Lib.hid (h.below HB1.out.1)
  have HT := Lib.hid (take20_any y n W1 HO1.out hn0 hc)
  rw [hd, hzs] at HT
  rw [hd, hzs]
  have HX := Lib.hid (show dataX y.x n = { y.x with b := y.x.b.drop d, win := (takeW y.x.win d).1 } by unfold dataX; rw [hd])
  have HH := Lib.hid h
  have HZ := Lib.hid hzl
  have hpl : y.p < W1.heap.size := HO1.out.blk.lt
  clear h hd hdl hzs hzl hn0 hc
  go_enter Try.func49, Try.ntmps49
  go_wp2_with (rw [hW1])
  clear hW1
  refine HT.out.mono ?_
  rintro e w2 ⟨bv, rfl, hbv, y1, hnb, hs, hx1⟩
  obtain ⟨ab, cb, rfl, _⟩ := id hbv
  have hc0 : w2.cell? ⟨y.p, 0, none⟩ = some (.int .i64 y.x.win) := by
    have := blk_cell (j := 0) hs.cells rfl
    rw [show y.x.win = y1.x.win by rw [hx1]]
    exact this
  have hf0 := blk_free (j := 0) hs.cells
  have hl0 := (Array.getElem?_eq_some_iff.1 hs.cells).1
  have HS := Lib.hid (And.intro hbv (And.intro hnb (And.intro hs hx1)))
  have hlen := HZ.out
  rw [hlen]
  clear hbv hnb hs hx1 hlen
  go_wp2_with fail
  refine (take_same _ _ _).mono ?_
  rintro e w3 ⟨rfl, rfl⟩
  rw [show tupW (takeW y.x.win (d : Int)) = .tuple #[.int .i64 (takeW y.x.win (d : Int)).1, .bool (takeW y.x.win (d : Int)).2] from rfl]
  obtain ⟨nw, hnw⟩ : ∃ nw, (takeW y.x.win (d : Int)).1 = nw := ⟨_, rfl⟩
  have HNw := Lib.hid hnw
  rw [hnw]
  clear hnw
  go_wp2_with fail
  obtain ⟨hbv, hnb, hs, hx1⟩ := HS.out
  have hs2 := hs.setN (y' := { y1 with x := { y1.x with win := nw } }) 0 (.int .i64 nw) rfl rfl rfl ⟨rfl, rfl, rfl, rfl, rfl, rfl⟩
  have hx2 : ({ y1.x with win := nw } : Sm) = dataX y.x n := by rw [HX.out, hx1, HNw.out]
  have ht0 := turn_set19 (W := w3) y.p 0 (.int .i64 nw)
  have hg1 : (w3.setCell ⟨y.p, 0, none⟩ (.int .i64 nw)).heap[g]? = some (.cells #[.int .i64 0, .int .i64 0, .int .i64 0, .slice none 0 0] 34 (0, 0)) :=
    ht0.obj (hs.t.obj HB1.out.2.1 (fun e => by have := HH.out.lt (show EtB y g from .inl e); omega)) (fun e => by have e' : g = y.p := e; have := HH.out.blk.lt; omega)
  have hb0 : Sl .u8 (w3.setCell ⟨y.p, 0, none⟩ (.int .i64 nw)) (.slice ab zs.length cb) zs := hbv.turn ht0 (fun k hk e => by have e' : k = y.p := e; have := (hnb k hk).1; have := HO1.out.blk.lt; omega)
  have he := end20_any _ _ hs2.o
  dsimp only at he
  rw [hs.p, hx2] at he
  rw [HF.out] at he
  have HE := Lib.hid he
  have H2 := Lib.hid (And.intro hs2 (And.intro hx2 (And.intro hg1 (And.intro hb0 hnb))))
  clear hbv hnb hs hx1 hs2 hx2 ht0 hg1 hb0 he hc0 hf0 hl0
  generalize w3.setCell ⟨y.p, 0, none⟩ (.int .i64 nw) = w4 at H2 HE ⊢
  refine HE.out.mono ?_
  rintro e w5 ⟨rfl, mm, rfl⟩
  have hb5 := below_drewN (Below.refl w4.heap.size w4) mm
  have H5 := Lib.hid (show StStep W1 (w4.drewN mm) y { y1 with x := { y1.x with win := nw } } ∧ (w4.drewN mm).heap[g]? = some (.cells #[.int .i64 0, .int .i64 0, .int .i64 0, .slice none 0 0] 34 (0, 0)) ∧ Sl .u8 (w4.drewN mm) (.slice ab zs.length cb) zs from
    ⟨H2.out.1.far (Turn.of_below hb5 (S := fun _ => False)) (fun _ e => e.elim), (hb5.block g (Array.getElem?_eq_some_iff.1 H2.out.2.2.1).1).trans H2.out.2.2.1, H2.out.2.2.2.1.below hb5⟩)
  clear hb5
  generalize w4.drewN mm = w6 at H5 ⊢
  go_wp2_with (refine store_fr13 rfl (.tmp 6) (.tmp 30) rfl g ⟨0, ef, sid, zs⟩ ab d cb _ rfl rfl H5.out.2.1 rfl ?_)
  have HZr := Lib.hid (setRow_heap _ g _ #[.int .i64 0, .int .i64 ef, .int .i64 sid, .slice ab d cb] _ _ H5.out.2.1)
  refine bodyPost_ret (results_row0 rfl _ _ g 34 #[.int .i64 0, .int .i64 ef, .int .i64 sid, .slice ab d cb] (0, 0) _ rfl HZr.out Try.underlying34 rfl (by kernel_rfl)) rfl ?_
  have htz : Turn (fun k => k = g) w6 (w6.setRow g #[.int .i64 0, .int .i64 ef, .int .i64 sid, .slice ab d cb]) := Turn.of_grown (setRow_grown _ _ _)
  obtain ⟨hs2, hx2, _, _, hnb⟩ := H2.out
  have hg0 := HB1.out.2.2
  have hfar : ∀ k, k = g → w.heap.size ≤ k ∧ ¬ EtB { y1 with x := { y1.x with win := nw } } k := fun k e => ⟨by omega, fun hk => by
    rcases hs2.b k hk with hk | hk
    · have := HH.out.lt hk; omega
    · omega⟩
  have hsw := (H5.out.1.pre HB1.out.1).far htz hfar
  have hl5 := HZ.out
  rw [hl5] at hnb
  refine ⟨_, rfl, ?_, { y1 with x := { y1.x with win := nw } }, fun k hk => ⟨by have := (hnb k hk).1; omega, (hnb k hk).2⟩, hsw, hx2⟩
  have := H5.out.2.2.turn htz (fun k hk e => by have e' : k = g := e; rw [hl5] at hk; have := (hnb k hk).1; omega)
  rw [hl5] at this
  exact this
end Go.Proofs.Ytnoegbdmjinfjaa

/-
  Layer 20's program: put, drop, stream; New.
-/
namespace Go.Proofs.Ytnoegbdmjinfjaa
set_option maxRecDepth 20000
open Go.RowKit

def Apart20 (a b : Et) : Prop := ∀ g, EtB a g → ¬ EtB b g
theorem rise_iff (ys : List Et) : Rise ys ↔ ys.Pairwise (fun a b => a.x.id < b.x.id) := by
  rw [List.pairwise_iff_getElem]
  refine ⟨fun h i j hi hj hij => h i j _ _ hij (List.getElem?_eq_getElem hi) (List.getElem?_eq_getElem hj), fun h i j a b hij ha hb => ?_⟩
  obtain ⟨hi, rfl⟩ := List.getElem?_eq_some_iff.1 ha
  obtain ⟨hj, rfl⟩ := List.getElem?_eq_some_iff.1 hb
  exact h i j hi hj hij
theorem apart_iff (ys : List Et) : (∀ (i j : Nat) (a b : Et), i ≠ j → ys[i]? = some a → ys[j]? = some b → ∀ g, EtB a g → ¬ EtB b g) ↔ ys.Pairwise Apart20 := by
  rw [List.pairwise_iff_getElem]
  refine ⟨fun h i j hi hj hij => h i j _ _ (by omega) (List.getElem?_eq_getElem hi) (List.getElem?_eq_getElem hj), fun h i j a b hij ha hb g h1 h2 => ?_⟩
  obtain ⟨hi, rfl⟩ := List.getElem?_eq_some_iff.1 ha
  obtain ⟨hj, rfl⟩ := List.getElem?_eq_some_iff.1 hb
  rcases Nat.lt_or_gt_of_ne hij with e | e
  · exact h i j hi hj e g h1 h2
  · exact h j i hj hi e g h2 h1
theorem pw_insert {α : Type} {R : α → α → Prop} {ys : List α} {i : Nat} {y : α} (h : ys.Pairwise R) (h1 : ∀ a ∈ ys.take i, R a y) (h2 : ∀ b ∈ ys.drop i, R y b) : (ys.take i ++ y :: ys.drop i).Pairwise R := by
  rw [← List.take_append_drop i ys, List.pairwise_append] at h
  obtain ⟨h3, h4, h5⟩ := h
  rw [List.pairwise_append, List.pairwise_cons]
  refine ⟨h3, ⟨h2, h4⟩, fun a ha b hb => ?_⟩
  rcases List.mem_cons.1 hb with rfl | hb
  · exact h1 a ha
  · exact h5 a ha b hb
theorem cut_sub {α : Type} (ys : List α) (i : Nat) : (ys.take i ++ ys.drop (i + 1)).Sublist ys := by
  have h : (ys.take i ++ ys.drop (i + 1)).Sublist (ys.take i ++ ys.drop i) := List.Sublist.append (List.Sublist.refl _) (by rw [← List.drop_drop]; exact List.drop_sublist _ _)
  rwa [List.take_append_drop] at h
theorem ins_mem {α : Type} {ys : List α} {i : Nat} {y z : α} (h : z ∈ ys.take i ++ y :: ys.drop i) : z = y ∨ z ∈ ys := by
  rcases List.mem_append.1 h with h | h
  · exact .inr (List.mem_of_mem_take h)
  · rcases List.mem_cons.1 h with h | h
    · exact .inl h
    · exact .inr (List.mem_of_mem_drop h)
theorem insS_low {x : Sm} : ∀ {a : List Sm} (r : List Sm), (∀ y ∈ a, ¬ x.id < y.id) → insS x (a ++ r) = a ++ insS x r
  | [], _, _ => rfl
  | y :: a, r, h => by
    simp only [List.cons_append, insS]
    rw [if_neg (h y List.mem_cons_self), insS_low r (fun z hz => h z (List.mem_cons_of_mem _ hz))]
theorem insS_place {ys : List Et} {y : Et} {i : Nat} (hp : PlaceAt ys y.x.id i) (hn : ∀ z ∈ ys, z.x.id ≠ y.x.id) : insS y.x (ys.map (·.x)) = (ys.take i ++ y :: ys.drop i).map (·.x) := by
  have e : ys.map (·.x) = (ys.take i).map (·.x) ++ (ys.drop i).map (·.x) := by rw [← List.map_append, List.take_append_drop]
  rw [e, insS_low]
  · rw [List.map_append, List.map_cons]
    congr 1
    cases hd : ys.drop i with
    | nil => rfl
    | cons z r =>
      have hz : ys[i]? = some z := by
        have := congrArg (fun l => l[0]?) hd
        simpa using this
      have h1 := hp.hi i z (Nat.le_refl _) hz
      have h2 := hn z (List.mem_of_getElem? hz)
      simp only [List.map_cons, insS]
      rw [if_pos (by omega)]
  · intro z hz
    obtain ⟨z', hz', rfl⟩ := List.mem_map.1 hz
    obtain ⟨k, hk⟩ := List.getElem?_of_mem hz'
    have hk2 : k < i ∧ ys[k]? = some z' := by
      rw [List.getElem?_take] at hk
      split at hk
      · exact ⟨‹_›, hk⟩
      · cases hk
    have := hp.lo k z' hk2.1 hk2.2
    omega
theorem dropS_cut {ys : List Et} {q : Sd} {k : Nat} {y : Et} (he : q.l = ys.map (·.x)) (hr : Rise ys) (hy : ys[k]? = some y) : dropS q y.x.id = { q with l := (ys.take k ++ ys.drop (k + 1)).map (·.x) } := by
  unfold dropS
  rw [he]
  obtain ⟨hk, hyk⟩ := List.getElem?_eq_some_iff.1 hy
  have e : ys = ys.take k ++ y :: ys.drop (k + 1) := by rw [← hyk, ← List.drop_eq_getElem_cons hk, List.take_append_drop]
  have h1 : ((ys.take k).map (·.x)).filter (fun x => !hasId y.x.id x) = (ys.take k).map (·.x) := List.filter_eq_self.2 (fun x hx => by
    obtain ⟨z, hz, rfl⟩ := List.mem_map.1 hx
    obtain ⟨j, hj⟩ := List.getElem?_of_mem hz
    have hj2 : j < k ∧ ys[j]? = some z := by
      rw [List.getElem?_take] at hj
      split at hj
      · exact ⟨‹_›, hj⟩
      · cases hj
    have := hr j k z y hj2.1 hj2.2 hy
    simp [hasId]; omega)
  have h2 : ((ys.drop (k + 1)).map (·.x)).filter (fun x => !hasId y.x.id x) = (ys.drop (k + 1)).map (·.x) := List.filter_eq_self.2 (fun x hx => by
    obtain ⟨z, hz, rfl⟩ := List.mem_map.1 hx
    obtain ⟨j, hj⟩ := List.getElem?_of_mem hz
    rw [List.getElem?_drop] at hj
    have := hr k (k + 1 + j) y z (by omega) hy hj
    simp [hasId]; omega)
  have h3 : (ys.map (·.x)).filter (fun x => !hasId y.x.id x) = (ys.take k ++ ys.drop (k + 1)).map (·.x) := by
    conv => lhs; rw [e]
    rw [List.map_append, List.map_cons, List.filter_append, h1, List.filter_cons_of_neg (by simp [hasId]), h2, List.map_append]
  rw [h3]
/-- where an id stands, if it does -/
theorem SnO.find {W : World} {T : Nat} {v : Value} {ys : List Et} {q : Sd} (h : SnO W T v ys q) {id : Int} (hi : q.l.any (hasId id) = true) : ∃ k y, ys[k]? = some y ∧ y.x.id = id ∧ q.l[k]? = some y.x ∧ get20 q id = some y.x ∧ ∀ x', put20 q id x' = { q with l := q.l.set k x' } := by
  obtain ⟨k, x, _, hx, hg, hp, he⟩ := get20_some hi
  have hx' := hx
  rw [h.e, List.getElem?_map] at hx'
  cases hy : ys[k]? with
  | none => rw [hy] at hx'; cases hx'
  | some y =>
    rw [hy] at hx'
    obtain rfl : y.x = x := by simpa using hx'
    exact ⟨k, y, hy, he, hx, hg, hp⟩
theorem SnO.noId {W : World} {T : Nat} {v : Value} {ys : List Et} {q : Sd} (h : SnO W T v ys q) {id : Int} (hi : q.l.any (hasId id) = false) : ∀ y ∈ ys, y.x.id ≠ id := fun y hy e => by
  have : q.l.any (hasId id) = true := List.any_eq_true.2 ⟨y.x, by rw [h.e]; exact List.mem_map.2 ⟨y, hy, rfl⟩, by simp [hasId, e]⟩
  rw [hi] at this; cases this
section
variable {T : Nat} {v : Value} {ys : List Et} {q : Sd} {w : World}
theorem stream20_yes (h : SnO w T v ys q) (hl : ys.length ≤ 1000000) {k : Nat} {y : Et} (hy : ys[k]? = some y) : Calls Try.prog 43 #[.pointer (some ⟨T, 0, none⟩), .int .i64 y.x.id] w fun e w' => e = .returned (.tuple #[.pointer (some ⟨y.p, 0, none⟩), .int .i64 0]) ∧ Below w.heap.size w w' := by
  have HG := Lib.hid (get20_yes y.x.id ys v w h.sl h.rise hl k y hy rfl)
  obtain ⟨f0, f1, f2⟩ := h.cells
  obtain ⟨a, c, rfl, _⟩ := h.sl.shape
  clear h hl hy
  go_enter Try.func43, Try.ntmps43
  go_wp2_with fail
  refine HG.out.mono ?_
  rintro e w1 ⟨rfl, hb⟩
  have HB := Lib.hid hb
  clear hb
  go_wp2_with fail
  go_ret2
  exact ⟨rfl, HB.out⟩
theorem stream20_no (id : Int) (h : SnO w T v ys q) (hl : ys.length ≤ 1000000) (hn : ∀ y ∈ ys, y.x.id ≠ id) : Calls Try.prog 43 #[.pointer (some ⟨T, 0, none⟩), .int .i64 id] w fun e w' => e = .returned (.tuple #[.pointer none, .int .i64 5]) ∧ Below w.heap.size w w' := by
  have HG := Lib.hid (get20_no id ys v w h.sl h.rise hl hn)
  obtain ⟨f0, f1, f2⟩ := h.cells
  obtain ⟨a, c, rfl, _⟩ := h.sl.shape
  clear h hl hn
  go_enter Try.func43, Try.ntmps43
  go_wp2_with fail
  refine HG.out.mono ?_
  rintro e w1 ⟨rfl, hb⟩
  have HB := Lib.hid hb
  clear hb
  go_wp2_with fail
  go_ret2
  exact ⟨rfl, HB.out⟩
theorem stream20_nil (id : Int) (w : World) : Calls Try.prog 43 #[.pointer none, .int .i64 id] w fun e w' => e = .returned (.tuple #[.pointer none, .int .i64 1]) ∧ w' = w := by
  go_enter Try.func43, Try.ntmps43
  go_wp2_with fail
  go_ret2
  exact ⟨rfl, rfl⟩
/-- another list is stored -/
theorem SnO.setL {v' : Value} {ys' : List Et} (hb : w.heap[T]? = some (.cells #[.int .i64 q.cap, v] 61 (0, 0))) (hr : RowC enC 2 w 0 93 v' ys') (hs : ∀ y ∈ ys', StO w y) (hR : Rise ys') (hi : ∀ y ∈ ys', 1 ≤ y.x.id ∧ y.x.id ≤ 2147483647) (hv : ∀ g, v'.ownBlock = some g → g ≠ T) (hn : ∀ y ∈ ys', ∀ g, EtB y g → g ≠ T ∧ v'.ownBlock ≠ some g)
    (hp : ∀ (i j : Nat) (a b : Et), i ≠ j → ys'[i]? = some a → ys'[j]? = some b → ∀ g, EtB a g → ¬ EtB b g) (hw : ∀ y ∈ ys', winB y.x.win = true) : SnO (w.setCell ⟨T, 1, none⟩ v') T v' ys' { q with l := ys'.map (·.x) } := by
  have ht := turn_set19 (W := w) T 1 v'
  exact ⟨heap_setCell_same _ T 1 _ _ _ hb, owned_turn hr ht hv, fun y hy => (hs y hy).turn ht (fun g hg => (hn y hy g hg).1), rfl, hR, hi, hv, hn, hp, hw⟩
set_option maxHeartbeats 2000000 in
theorem put20i_any (y : Et) (h : SnO w T v ys q) (hl : ys.length ≤ 100000) (ho : StO w y) (hn : ∀ z ∈ ys, z.x.id ≠ y.x.id) (hid : 1 ≤ y.x.id ∧ y.x.id ≤ 2147483647) (ha : ∀ g, EtB y g → g ≠ T ∧ v.ownBlock ≠ some g) (hz : ∀ z ∈ ys, Apart20 y z) (hwy : winB y.x.win = true) :
    Calls Try.prog 42 #[.pointer (some ⟨T, 1, none⟩), .int .i64 y.x.id, .pointer (some ⟨y.p, 0, none⟩)] w fun e w' =>
      e = .returned (.tuple #[]) ∧ ∃ v' ys', SnO w' T v' ys' { q with l := insS y.x q.l } ∧ Turn (fun g => g = T ∨ v.ownBlock = some g) w w' ∧ (∀ g, v'.ownBlock = some g → v.ownBlock = some g ∨ w.heap.size ≤ g) ∧ ∀ z ∈ ys', z = y ∨ z ∈ ys := by
  have HP := Lib.hid (place20_any y.x.id ys v w h.sl h.rise (by omega))
  obtain ⟨f0, f1, f2⟩ := h.cells
  have hfr := h.free 1
  obtain ⟨a, c, hvs, _⟩ := h.sl.shape
  obtain ⟨L, hL⟩ : ∃ L, ys.length = L := ⟨_, rfl⟩
  rw [hvs, hL] at f1
  have HH := Lib.hid (And.intro h (And.intro ho (And.intro hn (And.intro hid (And.intro ha (And.intro hz hwy))))))
  have HV := Lib.hid (And.intro hvs (And.intro hL hl))
  rw [hvs, hL] at HP
  clear h ho hn hid ha hz hvs hL hl hwy
  go_enter Try.func42, Try.ntmps42
  go_wp2_with fail
  refine HP.out.mono ?_
  rintro e w1 ⟨i, rfl, hp, hb⟩
  have h1 := HH.out.1.below hb
  obtain ⟨f0, f1, f2⟩ := h1.cells
  have hfr := h1.free 1
  rw [HV.out.1, HV.out.2.1] at f1
  have H1 := Lib.hid (And.intro h1 (And.intro hp hb))
  clear h1 hp hb
  obtain ⟨X, hX⟩ : ∃ X, w1.heap.size = X := ⟨_, rfl⟩
  obtain ⟨W2, hW2⟩ : ∃ W2, w1.alloc (.cells #[.int .i64 y.x.id, .pointer (some ⟨y.p, 0, none⟩)] 93) = W2 := ⟨_, rfl⟩
  have HB2 := Lib.hid (show Below w1.heap.size w1 W2 ∧ W2.heap[X]? = some (.cells (enC y).toArray 93 (0, 0)) ∧ w1.heap.size = X ∧ W2.heap.size = X + 1 from by
    rw [← hW2, ← hX]; exact ⟨(Below.refl _ _).alloc (Nat.le_refl _) _, heap_alloc_new _ _, rfl, by simp⟩)
  have h2 := H1.out.1.below HB2.out.1
  have HI := Lib.hid (insert20_any v i ys y X W2 h2.row HB2.out.2.1 H1.out.2.1.le (fun e => by have := (H1.out.1.row.lt X e).2; have := HB2.out.2.2.1; omega) (by have := HV.out.2; omega))
  rw [HV.out.1, HV.out.2.1] at HI
  have H2 := Lib.hid h2
  clear h2
  go_wp2_with (rw [hW2])
  refine HI.out.mono ?_
  rintro e w3 ⟨v', rfl, hr, hg, hat⟩
  obtain ⟨a', c', rfl⟩ := hr.shape
  rw [show (Value.slice a L c).ownBlock = v.ownBlock by rw [HV.out.1, HV.out.2.1]] at hg hat
  have hTl := H1.out.1.cells.2.2
  have hs1 := H1.out.2.2.size
  have hx2 := HB2.out.2.2
  have hvT : ∀ g, v.ownBlock = some g → g ≠ T := HH.out.1.nv
  have hTb := (hg.block T H2.out.cells.2.2 (fun e => hvT T e.symm rfl)).trans H2.out.blk
  have ht3 : Turn (fun g => v.ownBlock = some g) W2 w3 := Turn.of_row hg
  have ho2 : StO W2 y := (HH.out.2.1.below H1.out.2.2).below HB2.out.1
  have hv' : ∀ g, (Value.slice a' (ys.take i ++ y :: ys.drop i).length c').ownBlock = some g → v.ownBlock = some g ∨ W2.heap.size ≤ g := fun g hg => by
    rcases hat with e | e
    · exact .inl (e ▸ hg)
    · rw [e] at hg; cases hg; exact .inr (Nat.le_refl _)
  have hins := insS_place H1.out.2.1 HH.out.2.2.1
  have hq : SnO (w3.setCell ⟨T, 1, none⟩ (.slice a' (ys.take i ++ y :: ys.drop i).length c')) T (.slice a' (ys.take i ++ y :: ys.drop i).length c') (ys.take i ++ y :: ys.drop i) { q with l := insS y.x q.l } := by
    have := SnO.setL (q := q) hTb hr ?_ ?_ ?_ ?_ ?_ ?_ ?_
    · rw [HH.out.1.e, hins]; exact this
    · intro z hz
      rcases ins_mem hz with rfl | hz
      · exact ho2.turn ht3 (fun g hg e => (HH.out.2.2.2.2.1 g hg).2 e)
      · exact (H2.out.st z hz).turn ht3 (fun g hg e => (H2.out.ns z hz g hg).2 e)
    · rw [rise_iff]
      refine pw_insert ((rise_iff _).1 HH.out.1.rise) (fun z hz => ?_) (fun z hz => ?_)
      · obtain ⟨k, hk⟩ := List.getElem?_of_mem hz
        rw [List.getElem?_take] at hk
        split at hk
        · exact H1.out.2.1.lo k z ‹_› hk
        · cases hk
      · obtain ⟨k, hk⟩ := List.getElem?_of_mem hz
        rw [List.getElem?_drop] at hk
        have h1 := H1.out.2.1.hi _ z (by omega) hk
        have h2 := HH.out.2.2.1 z (List.mem_of_mem_drop hz)
        omega
    · intro z hz
      rcases ins_mem hz with rfl | hz
      · exact HH.out.2.2.2.1
      · exact HH.out.1.ids z hz
    · intro g hg
      rcases hv' g hg with e | e
      · exact hvT g e
      · omega
    · intro z hz g hg
      have hlow : g < w.heap.size ∧ g ≠ T ∧ v.ownBlock ≠ some g := by
        rcases ins_mem hz with rfl | hz
        · exact ⟨HH.out.2.1.lt hg, HH.out.2.2.2.2.1 g hg⟩
        · exact ⟨(HH.out.1.st z hz).lt hg, HH.out.1.ns z hz g hg⟩
      refine ⟨hlow.2.1, fun e => ?_⟩
      rcases hv' g e with e | e
      · exact hlow.2.2 e
      · have := hlow.1; omega
    · rw [apart_iff]
      refine pw_insert ((apart_iff _).1 HH.out.1.np) (fun z hz g h1 h2 => ?_) (fun z hz => ?_)
      · exact HH.out.2.2.2.2.2.1 z (List.mem_of_mem_take hz) g h2 h1
      · exact HH.out.2.2.2.2.2.1 z (List.mem_of_mem_drop hz)
    · intro z hz
      rcases ins_mem hz with rfl | hz
      · exact HH.out.2.2.2.2.2.2
      · exact HH.out.1.wr z hz
  have htw : Turn (fun g => g = T ∨ v.ownBlock = some g) w (w3.setCell ⟨T, 1, none⟩ (.slice a' (ys.take i ++ y :: ys.drop i).length c')) :=
    (((Turn.of_below H1.out.2.2).trans ((Turn.of_below (HB2.out.1.mono (by omega))))).trans' ht3 (fun k _ hk => .inr hk)).trans' (turn_set19 _ _ _) (fun k _ hk => .inl hk)
  obtain ⟨M, hM⟩ : ∃ M, (ys.take i ++ y :: ys.drop i).length = M := ⟨_, rfl⟩
  rw [hM] at hq htw hv' ⊢
  have hHE := Lib.hid (And.intro hq (And.intro htw (And.intro hv' (show w.heap.size ≤ W2.heap.size by omega))))
  have j1 := blk_cell (j := 1) hTb rfl
  rw [HV.out.1, HV.out.2.1] at j1
  have k1 := blk_free (j := 1) hTb
  have l1 := (Array.getElem?_eq_some_iff.1 hTb).1
  clear hq htw hv' hr hg hat hTb ht3 ho2 hins hW2 hX hTl hs1 hx2 hM
  go_wp2_with fail
  refine bodyPost_end (results_none rfl _ _ _) rfl ?_
  exact ⟨rfl, _, _, hHE.out.1, hHE.out.2.1, fun g hg => (hHE.out.2.2.1 g hg).imp_right (fun e => by have := hHE.out.2.2.2; omega), fun z hz => ins_mem hz⟩
set_option maxHeartbeats 2000000 in
theorem drop20i_any {k : Nat} {y : Et} (h : SnO w T v ys q) (hl : ys.length ≤ 100000) (hy : ys[k]? = some y) :
    Calls Try.prog 50 #[.pointer (some ⟨T, 1, none⟩), .int .i64 y.x.id] w fun e w' =>
      e = .returned (.tuple #[]) ∧ ∃ v', SnO w' T v' (ys.take k ++ ys.drop (k + 1)) (dropS q y.x.id) ∧ Turn (fun g => g = T ∨ v.ownBlock = some g) w w' ∧ v'.ownBlock = v.ownBlock := by
  have HP := Lib.hid (place20_any y.x.id ys v w h.sl h.rise (by omega))
  obtain ⟨f0, f1, f2⟩ := h.cells
  have hkl := (List.getElem?_eq_some_iff.1 hy).1
  obtain ⟨L, hL⟩ : ∃ L, ys.length = L := ⟨_, rfl⟩
  obtain ⟨g, c, hvs⟩ : ∃ g c, v = .slice (some ⟨g, 0, none⟩) L c := by
    rcases h.row.2 with ⟨_, h0⟩ | ⟨g, cap, cur, e, _⟩
    · omega
    · exact ⟨g, cap, by rw [e, hL]⟩
  rw [hvs] at f1
  have HH := Lib.hid (And.intro h hy)
  have HV := Lib.hid (And.intro hvs (And.intro hL hl))
  rw [hvs] at HP
  clear h hy hvs hL hl
  go_enter Try.func50, Try.ntmps50
  go_wp2_with fail
  refine HP.out.mono ?_
  rintro e w1 ⟨i, rfl, hp, hb⟩
  have hi : isAt ys y.x.id i = true := by
    cases hi : isAt ys y.x.id i with
    | true => rfl
    | false => exact absurd rfl (hp.no HH.out.1.rise hi y (List.mem_of_getElem? HH.out.2))
  obtain ⟨z, hz, hze⟩ := hp.yes hi
  obtain rfl : i = k := by
    rcases Nat.lt_trichotomy i k with e | e | e
    · have := HH.out.1.rise i k z y e hz HH.out.2; omega
    · exact e
    · have := HH.out.1.rise k i y z e HH.out.2 hz; omega
  rw [hi]
  have h1 := HH.out.1.below hb
  obtain ⟨f0, f1, f2⟩ := h1.cells
  have hfr := h1.free 1
  rw [HV.out.1] at f1
  have HD := Lib.hid (delete20_any g c i ys w1 (by have := h1.row; rwa [HV.out.1, ← HV.out.2.1] at this) hkl)
  rw [HV.out.2.1] at HD
  have H1 := Lib.hid (And.intro h1 hb)
  have hin : (i : Int) ≤ 100000 := by have := HV.out.2; omega
  clear h1 hp hb hi hz hze hkl
  go_wp2_with fail
  refine HD.out.mono ?_
  rintro e w3 ⟨v', rfl, hv', hr, hg⟩
  obtain ⟨a', c', rfl⟩ := hr.shape
  have hvT : ∀ g, v.ownBlock = some g → g ≠ T := HH.out.1.nv
  have hvo : v.ownBlock = some g := by rw [HV.out.1]; rfl
  rw [← hvo] at hg hv'
  have hTb := (hg.block T H1.out.1.cells.2.2 (fun e => hvT T e.symm rfl)).trans H1.out.1.blk
  have ht3 : Turn (fun g => v.ownBlock = some g) w1 w3 := Turn.of_row hg
  have hsub := cut_sub ys i
  have hq : SnO (w3.setCell ⟨T, 1, none⟩ (.slice a' (ys.take i ++ ys.drop (i + 1)).length c')) T (.slice a' (ys.take i ++ ys.drop (i + 1)).length c') (ys.take i ++ ys.drop (i + 1)) (dropS q y.x.id) := by
    rw [dropS_cut HH.out.1.e HH.out.1.rise HH.out.2]
    refine SnO.setL (q := q) hTb hr (fun z hz => (H1.out.1.st z (hsub.mem hz)).turn ht3 (fun g hg e => (H1.out.1.ns z (hsub.mem hz) g hg).2 e)) ((rise_iff _).2 (((rise_iff _).1 HH.out.1.rise).sublist hsub)) (fun z hz => HH.out.1.ids z (hsub.mem hz)) (fun g hg => hvT g (by rw [← hv']; exact hg)) (fun z hz g hg => ⟨(HH.out.1.ns z (hsub.mem hz) g hg).1, fun e => (HH.out.1.ns z (hsub.mem hz) g hg).2 (by rw [← hv']; exact e)⟩) ((apart_iff _).2 (((apart_iff _).1 HH.out.1.np).sublist hsub)) (fun z hz => HH.out.1.wr z (hsub.mem hz))
  have htw : Turn (fun g => g = T ∨ v.ownBlock = some g) w (w3.setCell ⟨T, 1, none⟩ (.slice a' (ys.take i ++ ys.drop (i + 1)).length c')) :=
    ((Turn.of_below H1.out.2).trans' ht3 (fun k _ hk => .inr hk)).trans' (turn_set19 _ _ _) (fun k _ hk => .inl hk)
  obtain ⟨M, hM⟩ : ∃ M, (ys.take i ++ ys.drop (i + 1)).length = M := ⟨_, rfl⟩
  rw [hM] at hq htw hv' ⊢
  have hHE := Lib.hid (And.intro hq (And.intro htw hv'))
  have j1 := blk_cell (j := 1) hTb rfl
  rw [HV.out.1] at j1
  have k1 := blk_free (j := 1) hTb
  have l1 := (Array.getElem?_eq_some_iff.1 hTb).1
  clear hq htw hv' hr hg hTb ht3 hsub hM hvo
  go_wp2_with fail
  refine bodyPost_end (results_none rfl _ _ _) rfl ?_
  exact ⟨rfl, _, hHE.out⟩
end
end Go.Proofs.Ytnoegbdmjinfjaa

/-
  Layer 20's program: New, Open, Head, Grow, Drop.
-/
namespace Go.Proofs.Ytnoegbdmjinfjaa
set_option maxRecDepth 20000
open Go.RowKit

theorem pNew20_yes (cap : Int) (w : World) (h : 0 ≤ cap ∧ cap ≤ 65536) : Calls Try.prog 7 #[.int .i64 cap] w fun e w' => ∃ T B, e = .returned (.tuple #[.pointer (some ⟨T, 0, none⟩), .int .i64 0]) ∧ SdAt w' T B ⟨cap, []⟩ ∧ (∀ g, B g → w.heap.size ≤ g) ∧ Below w.heap.size w w' := by
  obtain ⟨h1, h2⟩ := h
  have d1 : decide (cap < 0) = false := decide_eq_false (by omega)
  have d2 : decide (65536 < cap) = false := decide_eq_false (by omega)
  clear h1 h2
  go_enter Try.func7, Try.ntmps7
  go_wp2_with fail
  go_ret2
  refine ⟨w.heap.size, SnB w.heap.size (.slice none 0 0) [], rfl, ⟨.slice none 0 0, [], ⟨heap_alloc_new w _, RowC.nil _ _ _, (fun y hy => by cases hy), rfl, (fun i j a b _ ha => by simp at ha), (fun y hy => by cases hy), (fun g hg => by cases hg), (fun y hy => by cases hy), (fun i j a b _ ha => by simp at ha), (fun y hy => by cases hy)⟩, fun _ => Iff.rfl⟩, fun g hg => ?_, (Below.refl _ _).alloc (Nat.le_refl _) _⟩
  rcases hg with rfl | e | ⟨y, hy, _⟩
  · exact Nat.le_refl _
  · cases e
  · cases hy
theorem pNew20_no (cap : Int) (w : World) (_ : (Lit.int .i64 cap).wf = true) (h : ¬ (0 ≤ cap ∧ cap ≤ 65536)) : Calls Try.prog 7 #[.int .i64 cap] w fun e w' => e = .returned (.tuple #[.pointer none, .int .i64 1]) ∧ Below w.heap.size w w' := by
  by_cases h1 : cap < 0
  · have d1 : decide (cap < 0) = true := decide_eq_true h1
    clear h h1
    go_enter Try.func7, Try.ntmps7
    go_wp2_with fail
    go_ret2
    exact ⟨rfl, Below.refl _ _⟩
  · have d1 : decide (cap < 0) = false := decide_eq_false h1
    have d2 : decide (65536 < cap) = true := decide_eq_true (by omega)
    clear h h1
    go_enter Try.func7, Try.ntmps7
    go_wp2_with fail
    go_ret2
    exact ⟨rfl, Below.refl _ _⟩
/-- one stream is stepped -/
theorem SnO.stepped {W W' : World} {T : Nat} {v : Value} {ys : List Et} {q : Sd} {B : Nat → Prop} {k : Nat} {y y' : Et} (h : SnO W T v ys q) (hB : ∀ g, B g ↔ SnB T v ys g) (hy : ys[k]? = some y) (hs : StStep W W' y y') (hw : winB y'.x.win = true) :
    ∃ B', SdAt W' T B' { q with l := q.l.set k y'.x } ∧ Turn B W W' ∧ ∀ g, B' g → B g ∨ W.heap.size ≤ g := by
  have hm := List.mem_of_getElem? hy
  obtain ⟨B', h1, h2⟩ := (h.step hy hs hw).at (w := W) hB (fun g hg => .inl hg) (fun z hz g hg => by
    rcases List.mem_or_eq_of_mem_set hz with hz | rfl
    · exact .inl ⟨z, hz, hg⟩
    · exact (hs.b g hg).imp_left (fun e => ⟨y, hm, e⟩))
  exact ⟨B', h1, hs.t.mono (fun g _ e => (hB g).2 (.inr (.inr ⟨y, hm, .inl e⟩))), h2⟩
theorem SdAt.below {W W' : World} {T : Nat} {B : Nat → Prop} {q : Sd} (h : SdAt W T B q) (hb : Below W.heap.size W W') : SdAt W' T B q := h.turn (Turn.of_below hb (S := fun _ => False)) (fun _ _ => id)
section
variable {T : Nat} {B : Nat → Prop} {q : Sd} {w : World}
set_option maxHeartbeats 2000000 in
theorem pOpen20 (id win : Int) (h : SdAt w T B q) (hq : Small20 q) (_ : (Lit.int .i64 id).wf = true) (_ : (Lit.int .i64 win).wf = true) : Calls Try.prog 22 #[.pointer (some ⟨T, 0, none⟩), .int .i64 id, .int .i64 win] w fun e w' => ∃ B', e = .returned (.int .i64 (openE20 q id win)) ∧ SdAt w' T B' (openQ20 q id win) ∧ Turn B w w' ∧ ∀ g, B' g → B g ∨ w.heap.size ≤ g := by
  have h0 := h
  obtain ⟨v, ys, h, hB⟩ := h
  have hl : ys.length ≤ 1000 := by have := hq.1; rwa [h.len] at this
  obtain ⟨f0, f1, f2⟩ := h.cells
  by_cases hb : 1 ≤ id ∧ id ≤ 2147483647 ∧ winB win = true
  · obtain ⟨hb1, hb2, hb3⟩ := hb
    have d1 : decide (id < 1) = false := decide_eq_false (by omega)
    have d2 : decide (2147483647 < id) = false := decide_eq_false (by omega)
    by_cases ha : q.l.any (hasId id) = true
    · obtain ⟨k, y, hy, he, _⟩ := h.find ha
      have e1 : openE20 q id win = 6 := by unfold openE20; rw [if_pos ⟨hb1, hb2, hb3⟩, if_pos ha]
      have HE := Lib.hid (show openE20 q id win = 6 ∧ openQ20 q id win = q from ⟨e1, by unfold openQ20; rw [e1, if_neg (by decide)]⟩)
      have HW := Lib.hid hb3
      have HG := Lib.hid (get20_yes id ys v w h.sl h.rise (by omega) k y hy he)
      have H0 := Lib.hid h0
      obtain ⟨a, c, rfl, _⟩ := h.sl.shape
      clear h h0 hB hq hl hb1 hb2 hb3 ha hy he e1
      go_enter Try.func22, Try.ntmps22
      go_wp2_with fail
      refine (win_same _ _).mono ?_
      rintro e w1 ⟨rfl, rfl⟩
      rw [HW.out]
      go_wp2_with fail
      refine HG.out.mono ?_
      rintro e w2 ⟨rfl, hb⟩
      have HB := Lib.hid hb
      clear hb
      go_wp2_with fail
      go_ret
      exact ⟨B, by rw [HE.out.1]; rfl, by rw [HE.out.2]; exact H0.out.below HB.out, Turn.of_below HB.out, fun g hg => .inl hg⟩
    · have ha : q.l.any (hasId id) = false := by simpa using ha
      have hn := h.noId ha
      have e1 : openE20 q id win = 0 := by unfold openE20; rw [if_pos ⟨hb1, hb2, hb3⟩, ha, if_neg (by decide)]
      have HE := Lib.hid (show openE20 q id win = 0 ∧ openQ20 q id win = { q with l := insS ⟨id, win, [], false, false, false, []⟩ q.l } from ⟨e1, by unfold openQ20; rw [e1, if_pos rfl]; rfl⟩)
      have HW := Lib.hid hb3
      have HG := Lib.hid (get20_no id ys v w h.sl h.rise (by omega) hn)
      have HH := Lib.hid (And.intro h (And.intro hB (And.intro hn (And.intro hl (And.intro hb1 hb2)))))
      obtain ⟨a, c, hv, _⟩ := h.sl.shape
      have HV := Lib.hid hv
      rw [hv] at f1 HG
      clear h h0 hB hq hl hb1 hb2 hb3 ha hn hv e1
      go_enter Try.func22, Try.ntmps22
      go_wp2_with fail
      refine (win_same _ _).mono ?_
      rintro e w1 ⟨rfl, rfl⟩
      rw [HW.out]
      go_wp2_with fail
      refine HG.out.mono ?_
      rintro e w2 ⟨rfl, hb⟩
      obtain ⟨X, hX⟩ : ∃ X, w2.heap.size = X := ⟨_, rfl⟩
      obtain ⟨W3, hW3⟩ : ∃ W3, w2.alloc (.cells #[.int .i64 win, .slice none 0 0, .bool false, .bool false, .bool false, .slice none 0 0, .int .i64 0] 77) = W3 := ⟨_, rfl⟩
      have hB3 : Below w2.heap.size w2 W3 := by rw [← hW3]; exact (Below.refl _ _).alloc (Nat.le_refl _) _
      have hX3 : W3.heap[X]? = some (.cells #[.int .i64 win, .slice none 0 0, .bool false, .bool false, .bool false, .slice none 0 0, .int .i64 0] 77 (0, 0)) := by rw [← hW3, ← hX]; exact heap_alloc_new _ _
      have ho : StO W3 ⟨⟨id, win, [], false, false, false, []⟩, X, .slice none 0 0, .slice none 0 0, [], 0⟩ :=
        ⟨hX3, Sl.nil _ _, World.ownsRow_nil _ _ _ _, Sl.nil _ _, rfl, Nat.le_refl _, (fun g hg => by cases hg), fun h1 => absurd rfl h1⟩
      have hbw : Below w1.heap.size w1 W3 := hb.trans (hB3.mono hb.size)
      have h3 := HH.out.1.below hbw
      have hap : ∀ g, EtB ⟨⟨id, win, [], false, false, false, []⟩, X, .slice none 0 0, .slice none 0 0, [], 0⟩ g → g = X := fun g hg => by
        rcases hg with (e | e) | ⟨e, _⟩
        · exact e
        · cases e
        · exact absurd rfl e
      have hsz := hb.size
      have HP := Lib.hid (put20i_any ⟨⟨id, win, [], false, false, false, []⟩, X, .slice none 0 0, .slice none 0 0, [], 0⟩ h3 (by have := HH.out.2.2.2.1; omega) ho (fun z hz => HH.out.2.2.1 z hz) HH.out.2.2.2.2 (fun g hg => by
        have e := hap g hg
        refine ⟨by have := HH.out.1.cells.2.2; omega, fun e2 => ?_⟩
        have := (HH.out.1.row.lt g e2).2
        omega) (fun z hz g h1 h2 => by have e := hap g h1; have := (HH.out.1.st z hz).lt h2; omega) HW.out)
      dsimp only at HP
      have HB := Lib.hid (And.intro hbw (And.intro hap (show w1.heap.size ≤ X by omega)))
      clear hb hB3 hX3 ho hbw h3 hap hsz
      go_wp2_with (rw [hW3])
      refine HP.out.mono ?_
      rintro e w4 ⟨rfl, v', ys', hq', ht, hv', hm⟩
      have HF := Lib.hid (And.intro hq' (And.intro ht (And.intro hv' hm)))
      clear hq' ht hv' hm hW3
      go_wp2_with fail
      go_ret
      obtain ⟨hq', ht, hv', hm⟩ := HF.out
      obtain ⟨hbw, hap, hX'⟩ := HB.out
      have hs := hbw.size
      obtain ⟨B', h1, h2⟩ := hq'.at (w := w1) HH.out.2.1 (fun g hg => (hv' g hg).imp_right (fun e => by omega)) (fun z hz g hg => by
        rcases hm z hz with rfl | hz
        · exact .inr (by have := hap g hg; have := HH.out.1.cells.2.2; omega)
        · exact .inl ⟨z, hz, hg⟩)
      refine ⟨B', by rw [HE.out.1]; rfl, by rw [HE.out.2]; exact h1, (Turn.of_below hbw).trans' ht (fun g hg e => (HH.out.2.1 g).2 ?_), h2⟩
      rcases e with e | e
      · exact .inl e
      · exact .inr (.inl e)
  · have e1 : openE20 q id win = 1 := by unfold openE20; rw [if_neg hb]
    have HE := Lib.hid (show openE20 q id win = 1 ∧ openQ20 q id win = q from ⟨e1, by unfold openQ20; rw [e1, if_neg (by decide)]⟩)
    have H0 := Lib.hid h0
    clear h h0 hB hq hl e1 f0 f1 f2
    by_cases h1 : id < 1
    · have d1 : decide (id < 1) = true := decide_eq_true h1
      clear hb h1
      go_enter Try.func22, Try.ntmps22
      go_wp2_with fail
      go_ret
      exact ⟨B, by rw [HE.out.1]; rfl, by rw [HE.out.2]; exact H0.out, Turn.of_below (Below.refl _ _), fun g hg => .inl hg⟩
    · have d1 : decide (id < 1) = false := decide_eq_false h1
      by_cases h2 : 2147483647 < id
      · have d2 : decide (2147483647 < id) = true := decide_eq_true h2
        clear hb h1 h2
        go_enter Try.func22, Try.ntmps22
        go_wp2_with fail
        go_ret
        exact ⟨B, by rw [HE.out.1]; rfl, by rw [HE.out.2]; exact H0.out, Turn.of_below (Below.refl _ _), fun g hg => .inl hg⟩
      · have d2 : decide (2147483647 < id) = false := decide_eq_false h2
        have HW := Lib.hid (show winB win = false by
          cases e : winB win with
          | false => rfl
          | true => exact absurd ⟨by omega, by omega, e⟩ hb)
        clear hb h1 h2
        go_enter Try.func22, Try.ntmps22
        go_wp2_with fail
        refine (win_same _ _).mono ?_
        rintro e w1 ⟨rfl, rfl⟩
        rw [HW.out]
        go_wp2_with fail
        go_ret
        exact ⟨B, by rw [HE.out.1]; rfl, by rw [HE.out.2]; exact H0.out, Turn.of_below (Below.refl _ _), fun g hg => .inl hg⟩
set_option maxHeartbeats 2000000 in
theorem pHead20 (id : Int) (bv : Value) (zs : List Int) (last : Bool) (h : SdAt w T B q) (hb : Sl .u8 w bv zs) (_ : zs ≠ [] → ∀ g, bv.ownBlock = some g → ¬ B g) (hq : Small20 q) (_ : (Lit.int .i64 id).wf = true) (hz : zs.length ≤ 1000000) : Calls Try.prog 24 #[.pointer (some ⟨T, 0, none⟩), .int .i64 id, bv, .bool last] w fun e w' => ∃ B', e = .returned (.int .i64 (headE20 q id zs)) ∧ SdAt w' T B' (headQ20 q id zs last) ∧ Turn B w w' ∧ ∀ g, B' g → B g ∨ w.heap.size ≤ g := by
  have h0 := h
  obtain ⟨v, ys, h, hB⟩ := h
  have hl : ys.length ≤ 1000 := by have := hq.1; rwa [h.len] at this
  by_cases ha : q.l.any (hasId id) = true
  · obtain ⟨k, y, hy, rfl, _, hg, hp⟩ := h.find ha
    have HS := Lib.hid (stream20_yes h (by omega) hy)
    have HH := Lib.hid (And.intro h (And.intro hB hy))
    have H0 := Lib.hid h0
    have HZ := Lib.hid (And.intro hb hz)
    obtain ⟨sd, hsd⟩ : ∃ sd, y.x.said = sd := ⟨_, rfl⟩
    obtain ⟨L, hL⟩ : ∃ L, zs.length = L := ⟨_, rfl⟩
    obtain ⟨ab, cb, hbe, _⟩ := _root_.id hb
    rw [hL] at hbe
    subst hbe
    cases sd
    · by_cases hbig : 16384 < zs.length
      · have e1 : headE20 q y.x.id zs = 1 := by unfold headE20; rw [hg]; dsimp only; rw [hsd, if_neg (by decide), if_pos hbig]
        have HE := Lib.hid (show headE20 q y.x.id zs = 1 ∧ headQ20 q y.x.id zs last = q from ⟨e1, by unfold headQ20; rw [hg]; dsimp only; rw [e1, if_neg (by decide)]⟩)
        have d1 : decide (16384 < L) = true := decide_eq_true (by omega)
        have d2 : decide ((16384 : Int) < (L : Int)) = true := decide_eq_true (by omega)
        have HSd := Lib.hid hsd
        clear h h0 hB hy hg hp hq hl ha hb hz hbig e1 hL hsd
        go_enter Try.func24, Try.ntmps24
        go_wp2_with fail
        refine HS.out.mono ?_
        rintro e w1 ⟨rfl, hb1⟩
        obtain ⟨_, _, f2, _, _, _, _, f7⟩ := ((HH.out.1.st y (List.mem_of_getElem? HH.out.2.2)).below hb1).blk.cells
        rw [HSd.out] at f2
        have HB := Lib.hid hb1
        clear hb1
        go_wp2_with fail
        go_ret
        exact ⟨B, by rw [HE.out.1]; rfl, by rw [HE.out.2]; exact H0.out.below HB.out, Turn.of_below HB.out, fun g hg => .inl hg⟩
      · have e1 : headE20 q y.x.id zs = 0 := by unfold headE20; rw [hg]; dsimp only; rw [hsd, if_neg (by decide), if_neg hbig]
        have HE := Lib.hid (show headE20 q y.x.id zs = 0 ∧ headQ20 q y.x.id zs last = { q with l := q.l.set k { y.x with head := zs, waits := true, said := true, fin := last } } from ⟨e1, by unfold headQ20; rw [hg]; dsimp only; rw [e1, if_pos rfl, hp]⟩)
        have d1 : decide (16384 < L) = false := decide_eq_false (by omega)
        have d2 : decide ((16384 : Int) < (L : Int)) = false := decide_eq_false (by omega)
        have HSd := Lib.hid hsd
        have HL := Lib.hid hL
        clear h h0 hB hy hg hp hq hl ha hb hz hbig e1 hL hsd
        go_enter Try.func24, Try.ntmps24
        go_wp2_with fail
        refine HS.out.mono ?_
        rintro e w1 ⟨rfl, hb1⟩
        have ho := (HH.out.1.st y (List.mem_of_getElem? HH.out.2.2)).below hb1
        obtain ⟨_, _, f2, _, _, _, _, f7⟩ := ho.blk.cells
        rw [HSd.out] at f2
        have HC := Lib.hid (sayHead20_any y _ zs last w1 ho (HZ.out.1.below hb1) HZ.out.2)
        have HB := Lib.hid hb1
        clear hb1 ho
        go_wp2_with fail
        refine HC.out.mono ?_
        rintro e w2 ⟨rfl, y', hs, hx⟩
        have HF := Lib.hid (And.intro hs hx)
        clear hs hx
        go_wp2_with fail
        go_ret
        obtain ⟨B', h1, h2, h3⟩ := (HH.out.1.below HB.out).stepped HH.out.2.1 HH.out.2.2 HF.out.1 (by rw [HF.out.2]; exact HH.out.1.wr y (List.mem_of_getElem? HH.out.2.2))
        rw [HF.out.2] at h1
        exact ⟨B', by rw [HE.out.1]; rfl, by rw [HE.out.2]; exact h1, (Turn.of_below HB.out).trans h2, fun g hg => (h3 g hg).imp_right (fun e => Nat.le_trans HB.out.size e)⟩
    · have e1 : headE20 q y.x.id zs = 6 := by unfold headE20; rw [hg]; dsimp only; rw [hsd, if_pos rfl]
      have HE := Lib.hid (show headE20 q y.x.id zs = 6 ∧ headQ20 q y.x.id zs last = q from ⟨e1, by unfold headQ20; rw [hg]; dsimp only; rw [e1, if_neg (by decide)]⟩)
      have HSd := Lib.hid hsd
      clear h h0 hB hy hg hp hq hl ha hb hz e1 hL hsd
      go_enter Try.func24, Try.ntmps24
      go_wp2_with fail
      refine HS.out.mono ?_
      rintro e w1 ⟨rfl, hb1⟩
      obtain ⟨_, _, f2, _, _, _, _, f7⟩ := ((HH.out.1.st y (List.mem_of_getElem? HH.out.2.2)).below hb1).blk.cells
      rw [HSd.out] at f2
      have HB := Lib.hid hb1
      clear hb1
      go_wp2_with fail
      go_ret
      exact ⟨B, by rw [HE.out.1]; rfl, by rw [HE.out.2]; exact H0.out.below HB.out, Turn.of_below HB.out, fun g hg => .inl hg⟩
  · have ha : q.l.any (hasId id) = false := by simpa using ha
    have HS := Lib.hid (stream20_no id h (by omega) (h.noId ha))
    have e1 : headE20 q id zs = 5 := by unfold headE20; rw [get20_none ha]
    have HE := Lib.hid (show headE20 q id zs = 5 ∧ headQ20 q id zs last = q from ⟨e1, by unfold headQ20; rw [get20_none ha]⟩)
    have H0 := Lib.hid h0
    obtain ⟨ab, cb, rfl, _⟩ := _root_.id hb
    clear h h0 hB hq hl ha hb hz e1
    go_enter Try.func24, Try.ntmps24
    go_wp2_with fail
    refine HS.out.mono ?_
    rintro e w1 ⟨rfl, hb1⟩
    have HB := Lib.hid hb1
    clear hb1
    go_wp2_with fail
    go_ret
    exact ⟨B, by rw [HE.out.1]; rfl, by rw [HE.out.2]; exact H0.out.below HB.out, Turn.of_below HB.out, fun g hg => .inl hg⟩
set_option maxHeartbeats 2000000 in
theorem pGrow20 (id n : Int) (h : SdAt w T B q) (hq : Small20 q) (_ : (Lit.int .i64 id).wf = true) (_ : (Lit.int .i64 n).wf = true) : Calls Try.prog 26 #[.pointer (some ⟨T, 0, none⟩), .int .i64 id, .int .i64 n] w fun e w' => ∃ B', e = .returned (.tuple #[.bool (growO20 q id n), .int .i64 (growE20 q id)]) ∧ SdAt w' T B' (growQ20 q id n) ∧ Turn B w w' ∧ ∀ g, B' g → B g ∨ w.heap.size ≤ g := by
  have h0 := h
  obtain ⟨v, ys, h, hB⟩ := h
  have hl : ys.length ≤ 1000 := by have := hq.1; rwa [h.len] at this
  by_cases ha : q.l.any (hasId id) = true
  · obtain ⟨k, y, hy, rfl, _, hg, hp⟩ := h.find ha
    have HS := Lib.hid (stream20_yes h (by omega) hy)
    have HH := Lib.hid (And.intro h (And.intro hB hy))
    have HE := Lib.hid (show growE20 q y.x.id = 0 ∧ growO20 q y.x.id n = (growW y.x.win n).2 ∧ growQ20 q y.x.id n = { q with l := q.l.set k { y.x with win := (growW y.x.win n).1 } } from ⟨by unfold growE20; rw [if_pos ha], by unfold growO20; rw [hg], by unfold growQ20; rw [hg]; dsimp only; rw [hp]⟩)
    clear h h0 hB hy hg hp hq hl ha
    go_enter Try.func26, Try.ntmps26
    go_wp2_with fail
    refine HS.out.mono ?_
    rintro e w1 ⟨rfl, hb1⟩
    have ho := (HH.out.1.st y (List.mem_of_getElem? HH.out.2.2)).below hb1
    obtain ⟨f0, _, _, _, _, _, _, f7⟩ := ho.blk.cells
    have k0 := ho.blk.free 0
    have HB := Lib.hid (And.intro hb1 ho)
    clear hb1 ho
    go_wp2_with fail
    refine (grow_same _ _ _).mono ?_
    rintro e w2 ⟨rfl, rfl⟩
    obtain ⟨nw, hnw⟩ : ∃ nw, (growW y.x.win n).1 = nw := ⟨_, rfl⟩
    obtain ⟨nb, hnb⟩ : ∃ nb, (growW y.x.win n).2 = nb := ⟨_, rfl⟩
    rw [show tupW (growW y.x.win n) = .tuple #[.int .i64 (growW y.x.win n).1, .bool (growW y.x.win n).2] from rfl, hnw, hnb]
    rw [hnw, hnb] at HE
    have HNw := Lib.hid hnw
    clear hnw hnb
    go_wp2_with fail
    go_ret2
    have hs := (StStep.refl (W := w2) HB.out.2 (Below.refl _ _)).setN (y' := { y with x := { y.x with win := nw } }) 0 (.int .i64 nw) rfl rfl rfl ⟨rfl, rfl, rfl, rfl, rfl, rfl⟩
    obtain ⟨B', h1, h2, h3⟩ := (HH.out.1.below HB.out.1).stepped HH.out.2.1 HH.out.2.2 hs (by rw [← HNw.out]; exact growW_win n (HH.out.1.wr y (List.mem_of_getElem? HH.out.2.2)))
    exact ⟨B', by rw [HE.out.1, HE.out.2.1]; rfl, by rw [HE.out.2.2]; exact h1, (Turn.of_below HB.out.1).trans h2, fun g hg => (h3 g hg).imp_right (fun e => Nat.le_trans HB.out.1.size e)⟩
  · have ha : q.l.any (hasId id) = false := by simpa using ha
    have HS := Lib.hid (stream20_no id h (by omega) (h.noId ha))
    have HE := Lib.hid (show growE20 q id = 5 ∧ growO20 q id n = false ∧ growQ20 q id n = q from ⟨by unfold growE20; rw [ha]; rfl, by unfold growO20; rw [get20_none ha], by unfold growQ20; rw [get20_none ha]⟩)
    have H0 := Lib.hid h0
    clear h h0 hB hq hl ha
    go_enter Try.func26, Try.ntmps26
    go_wp2_with fail
    refine HS.out.mono ?_
    rintro e w1 ⟨rfl, hb1⟩
    have HB := Lib.hid hb1
    clear hb1
    go_wp2_with fail
    go_ret2
    exact ⟨B, by rw [HE.out.1, HE.out.2.1]; rfl, by rw [HE.out.2.2]; exact H0.out.below HB.out, Turn.of_below HB.out, fun g hg => .inl hg⟩
theorem cut20 {W W' w0 : World} {T : Nat} {v v' : Value} {ys : List Et} {q' : Sd} {B : Nat → Prop} {k : Nat} (hB : ∀ g, B g ↔ SnB T v ys g) (h' : SnO W' T v' (ys.take k ++ ys.drop (k + 1)) q') (hv : v'.ownBlock = v.ownBlock) (ht : Turn (fun g => g = T ∨ v.ownBlock = some g) W W') :
    ∃ B', SdAt W' T B' q' ∧ Turn B W W' ∧ ∀ g, B' g → B g ∨ w0.heap.size ≤ g := by
  obtain ⟨B', h1, h2⟩ := h'.at (w := w0) hB (fun g hg => .inl (hv ▸ hg)) (fun z hz g hg => .inl ⟨z, (cut_sub ys k).mem hz, hg⟩)
  refine ⟨B', h1, ht.mono (fun g _ e => (hB g).2 ?_), h2⟩
  rcases e with e | e
  · exact .inl e
  · exact .inr (.inl e)
set_option maxHeartbeats 2000000 in
theorem pDrop20 (id : Int) (h : SdAt w T B q) (hq : Small20 q) (_ : (Lit.int .i64 id).wf = true) : Calls Try.prog 28 #[.pointer (some ⟨T, 0, none⟩), .int .i64 id] w fun e w' => ∃ B', e = .returned (.int .i64 (dropE20 q id)) ∧ SdAt w' T B' (dropS q id) ∧ Turn B w w' ∧ ∀ g, B' g → B g ∨ w.heap.size ≤ g := by
  have h0 := h
  obtain ⟨v, ys, h, hB⟩ := h
  have hl : ys.length ≤ 1000 := by have := hq.1; rwa [h.len] at this
  by_cases ha : q.l.any (hasId id) = true
  · obtain ⟨k, y, hy, rfl, _⟩ := h.find ha
    have HS := Lib.hid (stream20_yes h (by omega) hy)
    have HH := Lib.hid (And.intro h (And.intro hB (And.intro hy hl)))
    have HE := Lib.hid (show dropE20 q y.x.id = 0 from by unfold dropE20; rw [if_pos ha])
    clear h h0 hB hy hq hl ha
    go_enter Try.func28, Try.ntmps28
    go_wp2_with fail
    refine HS.out.mono ?_
    rintro e w1 ⟨rfl, hb1⟩
    have h1 := HH.out.1.below hb1
    have HD := Lib.hid (drop20i_any h1 (by have := HH.out.2.2.2; omega) HH.out.2.2.1)
    have HB := Lib.hid (And.intro hb1 h1)
    clear hb1 h1
    go_wp2_with fail
    refine HD.out.mono ?_
    rintro e w2 ⟨rfl, v', h2, ht, hv⟩
    have HF := Lib.hid (And.intro h2 (And.intro ht hv))
    clear h2 ht hv
    go_wp2_with fail
    go_ret
    obtain ⟨B', h1, h2, h3⟩ := cut20 (w0 := w) HH.out.2.1 HF.out.1 HF.out.2.2 HF.out.2.1
    exact ⟨B', by rw [HE.out]; rfl, h1, (Turn.of_below HB.out.1).trans h2, h3⟩
  · have ha : q.l.any (hasId id) = false := by simpa using ha
    have HS := Lib.hid (stream20_no id h (by omega) (h.noId ha))
    have HE := Lib.hid (show dropE20 q id = 5 ∧ dropS q id = q from ⟨by unfold dropE20; rw [ha]; rfl, dropS_none ha⟩)
    have H0 := Lib.hid h0
    clear h h0 hB hq hl ha
    go_enter Try.func28, Try.ntmps28
    go_wp2_with fail
    refine HS.out.mono ?_
    rintro e w1 ⟨rfl, hb1⟩
    have HB := Lib.hid hb1
    clear hb1
    go_wp2_with fail
    go_ret
    exact ⟨B, by rw [HE.out.1]; rfl, by rw [HE.out.2]; exact H0.out.below HB.out, Turn.of_below HB.out, fun g hg => .inl hg⟩
end
end Go.Proofs.Ytnoegbdmjinfjaa

/-
  Layer 20's program: going through the streams.
-/
namespace Go.Proofs.Ytnoegbdmjinfjaa
set_option maxRecDepth 20000
open Go.RowKit Go.Shelf
attribute [local go_sem] Oper.semAt_some

/-- what a round may turn: not the row that is gone through -/
def KeepRw20 (v : Value) (A B : World) : Prop := A.heap.size ≤ B.heap.size ∧ ∀ g, v.ownBlock = some g → B.heap[g]? = A.heap[g]?
theorem KeepRw20.refl (v : Value) (A : World) : KeepRw20 v A A := ⟨Nat.le_refl _, fun _ _ => rfl⟩
theorem KeepRw20.trans {v : Value} {A B C : World} (h : KeepRw20 v A B) (k : KeepRw20 v B C) : KeepRw20 v A C := ⟨Nat.le_trans h.1 k.1, fun g hg => (k.2 g hg).trans (h.2 g hg)⟩
def encEt (y : Et) : Array Value := #[.int .i64 y.x.id, .pointer (some ⟨y.p, 0, none⟩)]
def NextEt (ys pre : List Et) (y : Et) (_ : World) : Prop := ys[pre.length]? = some y
def AllEt (ys xs : List Et) : Prop := xs = ys
def SomeEt (ys xs : List Et) : Prop := ∃ m, m < ys.length ∧ xs = ys.take (m + 1)
set_option maxHeartbeats 2000000 in
theorem rise_iter (n l Bb : Nat) (v : Value) (ys : List Et) (J Jx : List Et → World → Prop) (hJg : Grows J)
    (hY : ∀ pre y W1, J pre W1 → NextEt ys pre y W1 → pre.length < ys.length → YieldAt Fence.wide (n - 1) Try.prog l (encEt y) W1 fun e W' =>
      (e = .returned (.bool true) ∧ J (pre ++ [y]) W' ∧ KeepRw20 v W1 W') ∨ (e = .returned (.bool false) ∧ Jx (pre ++ [y]) W'))
    (W : World) (hb : W.heap[Bb]? = some (.cells #[v] 59 (0, 0))) (hT : RowC enC 2 W 0 93 v ys) (hl : ys.length ≤ 1000000) (h0 : J [] W) :
    CallsIn Fence.wide n Try.prog 66 #[.func (.yield l) #[] #[], .pointer (some ⟨Bb, 0, none⟩)] W fun e W' => (∃ v, e = .returned v) ∧ ((∃ xs, AllEt ys xs ∧ J xs W') ∨ ∃ pre, SomeEt ys pre ∧ Jx pre W') := by
  obtain ⟨a, cap, rfl⟩ := hT.shape
  refine callsIn_of_wp Try.func66 rfl trivial ?_ rfl
  simp only [Try.ntmps66, List.size_toArray, List.length_cons, List.length_nil, Nat.reduceAdd, Nat.reduceSub, Array.replicate_succ, Array.replicate_zero, List.push_toArray, List.append_toArray, List.nil_append, List.cons_append]
  have cb := blk_cell (j := 0) hb rfl
  have HT := Lib.hid hT
  gi_wp2
  gi_loopw [7] (fun i wr => ∃ k : Nat, i = .int .i64 k ∧ k ≤ ys.length ∧ J (ys.take k) wr ∧ KeepRw20 (.slice a ys.length cap) W wr) (fun i _ => ys.length - (intOf i).toNat)
  case atStart => exact ⟨0, rfl, Nat.zero_le _, by simpa using h0, KeepRw20.refl _ _⟩
  case round =>
    clear hb hT h0 cb
    obtain ⟨k, rfl, hk, hJ, hK⟩ := hrel
    by_cases hlt : k < ys.length
    · obtain ⟨y, hy⟩ : ∃ y, ys[k]? = some y := ⟨ys[k], List.getElem?_eq_getElem hlt⟩
      obtain ⟨bk, off, rfl, hbl, hcell⟩ := ((HT.out.of_block (w' := wr) (fun g hg => hK.2 g hg)).toSl enC_len).at_ hlt
      have c0 := hcell y hy 0 (by omega)
      have c1 := hcell y hy 1 (by omega)
      simp only [enC, List.getElem?_cons_zero, List.getElem?_cons_succ, Nat.add_zero] at c0 c1
      have hA : Below wr.heap.size wr (wr.alloc (.cells #[.int .i64 y.x.id, .pointer (some ⟨y.p, 0, none⟩)] 93)) := (Below.refl wr.heap.size wr).alloc (Nat.le_refl _) _
      have hJ2 := hJg _ _ _ hJ hA
      have hl : (ys.take k).length = k := by rw [List.length_take]; omega
      have hK2 : KeepRw20 (.slice (some ⟨bk, off, none⟩) ys.length cap) wr (wr.alloc (.cells #[.int .i64 y.x.id, .pointer (some ⟨y.p, 0, none⟩)] 93)) := ⟨by simp, fun g hg => Below.heap_alloc _ _ _ (by cases hg; exact hbl)⟩
      obtain ⟨fn, tmps, assign, body, hyi, hR⟩ := hY _ y _ hJ2 (show ys[(ys.take k).length]? = some _ by rw [hl]; exact hy) (by omega)
      have HTk := Lib.hid (show ys.take k ++ [y] = ys.take (k + 1) by rw [List.take_add_one, hy]; rfl)
      unfold encEt at hyi
      clear hcell hJ hJ2 hl hy hA
      gi_wp2
      refine ⟨fun h => by simp [Fence.wide] at h, ?_⟩
      refine hR.mono ?_
      rintro e W5 (⟨rfl, hJ5, hk5⟩ | ⟨rfl, hJx5⟩)
      · gi_wp2
        go_roundw
        case rel => exact ⟨k + 1, by go_num, by omega, by rw [← HTk.out]; exact hJ5, hK.trans (hK2.trans hk5)⟩
        case measure => simp [intOf]; omega
      · gi_wp2
        refine bodyPost_ret (results_none rfl _ _ _) rfl ?_
        exact ⟨⟨_, rfl⟩, .inr ⟨_, ⟨k, hlt, HTk.out⟩, hJx5⟩⟩
    · obtain rfl : k = ys.length := by omega
      gi_wp2
      go_end0
      refine ⟨⟨_, rfl⟩, .inl ⟨_, ?_, hJ⟩⟩
      show _ = _
      rw [List.take_of_length_le (Nat.le_refl _)]
theorem rise_seq (n Bb : Nat) (v : Value) (ys : List Et) (w : World) (hb : w.heap[Bb]? = some (.cells #[v] 59 (0, 0))) (hT : RowC enC 2 w 0 93 v ys) (hl : ys.length ≤ 1000000) :
    SeqP Try.prog n 66 #[.pointer (some ⟨Bb, 0, none⟩)] encEt (NextEt ys) (KeepRw20 v) (AllEt ys) (SomeEt ys) ys.length w := fun l J Jx W hW hJg _ hY h0 =>
  rise_iter n l Bb v ys J Jx hJg hY W ((hW.block Bb (Array.getElem?_eq_some_iff.1 hb).1).trans hb) (hT.below hW) hl h0
theorem rising20_any (v : Value) (ys : List Et) (w : World) (h : SlC enC 2 w v ys) : Calls Try.prog 55 #[v] w fun e w' => e = .returned (.func (.func 66) #[] #[.pointer (some ⟨w.heap.size, 0, none⟩)]) ∧ w' = w.alloc (.cells #[v] 59) := by
  obtain ⟨a, c, rfl, _⟩ := h.shape
  go_enter Try.func55, Try.ntmps55
  go_wp2_with fail
  go_ret
  exact ⟨rfl, rfl⟩
theorem all20_any (T : Nat) (v : Value) (ys : List Et) (q : Sd) (w : World) (h : SnO w T v ys q) : Calls Try.prog 37 #[.pointer (some ⟨T, 0, none⟩)] w fun e w' => e = .returned (.func (.func 66) #[] #[.pointer (some ⟨w.heap.size, 0, none⟩)]) ∧ w' = w.alloc (.cells #[v] 59) := by
  have HR := Lib.hid (rising20_any v ys w h.sl)
  obtain ⟨f0, f1, f2⟩ := h.cells
  obtain ⟨a, c, rfl, _⟩ := h.sl.shape
  clear h
  go_enter Try.func37, Try.ntmps37
  go_wp2_with fail
  refine HR.out.mono ?_
  rintro e w1 ⟨rfl, rfl⟩
  go_wp2_with fail
  go_ret
  exact ⟨rfl, rfl⟩
/-- of no sender: through none -/
theorem all20_nil (w : World) : Calls Try.prog 37 #[.pointer none] w fun e w' => ∃ Bb u, e = .returned (.func (.func 66) #[] #[.pointer (some ⟨Bb, 0, none⟩)]) ∧ w'.heap[Bb]? = some (.cells #[u] 59 (0, 0)) ∧ RowC enC 2 w' 0 93 u [] ∧ w.heap.size ≤ Bb ∧ (∀ g, u.ownBlock = some g → w.heap.size ≤ g) ∧ Below w.heap.size w w' := by
  go_enter Try.func37, Try.ntmps37
  go_wp2_with fail
  have hr : RowC enC 2 (w.alloc (.cells #[] 93)) 0 93 (.slice (some ⟨w.heap.size, 0, none⟩) 0 0) [] := ⟨rfl, .inr ⟨w.heap.size, 0, #[], rfl, Nat.zero_le _, heap_alloc_new w _, Nat.le_refl _, Nat.zero_le _, rfl, rfl⟩⟩
  have hb : Below w.heap.size w (w.alloc (.cells #[] 93)) := (Below.refl _ _).alloc (Nat.le_refl _) _
  have HR := Lib.hid (And.intro hr hb)
  have hR := rising20_any _ [] _ (hr.toSl enC_len)
  clear hr hb
  generalize w.alloc (.cells #[] 93) = W1 at HR hR ⊢
  refine hR.mono ?_
  rintro e w1 ⟨rfl, rfl⟩
  go_wp2_with fail
  go_ret
  have hb2 := (Below.refl W1.heap.size W1).alloc (Nat.le_refl _) (.cells #[.slice (some ⟨w.heap.size, 0, none⟩) 0 0] 59)
  exact ⟨_, _, rfl, heap_alloc_new _ _, HR.out.1.below hb2, HR.out.2.size, fun g hg => by cases hg; exact Nat.le_refl _, HR.out.2.trans (hb2.mono HR.out.2.size)⟩
end Go.Proofs.Ytnoegbdmjinfjaa

/-
  Layer 20's program: Waiting, Heads (written by wip/tools/gen20q.py).
-/
namespace Go.Proofs.Ytnoegbdmjinfjaa
set_option maxRecDepth 20000
open Go.RowKit Go.Shelf
attribute [local go_sem] Oper.semAt_some

/-- a sum that goes on while the streams are gone through -/
def SumIs (S base : Nat) (f : Sm → Nat) (w : World) (xs : List Et) (W : World) : Prop := W.heap[S]? = some (.cells #[.int .i64 ((xs.foldr (fun y n => f y.x + n) 0 : Nat) : Int)] 3 (0, 0)) ∧ Below w.heap.size w W ∧ base ≤ W.heap.size ∧ (xs.foldr (fun y n => f y.x + n) 0) ≤ xs.length * 1000000
theorem SumIs.grows (S base : Nat) (f : Sm → Nat) (w : World) : Grows (SumIs S base f w) := by
  rintro s A W ⟨h1, h2, h3, h4⟩ hg
  exact ⟨(hg.block _ (Array.getElem?_eq_some_iff.1 h1).1).trans h1, h2.trans (hg.mono h2.size), Nat.le_trans h3 hg.size, h4⟩
theorem SumIs.turns {S base : Nat} {f : Sm → Nat} {w : World} (hS : S < base) (hw : w.heap.size ≤ base) : Turns base (SumIs S base f w) := by
  rintro s A l o o' ⟨h1, h2, h3, h4⟩ hl hlo hoc
  exact ⟨(World.putObj_heap_other (by omega)).trans h1, h2.trans (below_put A o o' (by omega) hlo), by rw [World.putObj_size]; exact h3, h4⟩
theorem others_below {A B : World} (h : Below A.heap.size A B) : KeepsOthers A B := ⟨h.size, fun k _ ho _ => (h.block k (Array.getElem?_eq_some_iff.1 ho).1).trans ho⟩
theorem fold_push (f : Sm → Nat) (xs : List Et) (y : Et) : (xs ++ [y]).foldr (fun y n => f y.x + n) 0 = xs.foldr (fun y n => f y.x + n) 0 + f y.x := by
  induction xs with
  | nil => simp
  | cons x r ih => simp only [List.cons_append, List.foldr_cons, ih]; omega
theorem fold_map (f : Sm → Nat) (g : List Sm → Nat) (h0 : g [] = 0) (h1 : ∀ x l, g (x :: l) = f x + g l) (ys : List Et) : g (ys.map (·.x)) = ys.foldr (fun y n => f y.x + n) 0 := by
  induction ys with
  | nil => exact h0
  | cons x r ih => rw [List.map_cons, h1, ih]; rfl
set_option maxHeartbeats 4000000 in
theorem waiting20_any (T : Nat) (v : Value) (ys : List Et) (q : Sd) (w : World) (h : SnO w T v ys q) (hl : ys.length ≤ 1000) (hp : ∀ y ∈ ys, y.x.b.length ≤ 1000000) :
    Calls Try.prog 15 #[.pointer (some ⟨T, 0, none⟩)] w fun e w' => e = .returned (.int .i64 (sumB q.l : Nat)) ∧ Below w.heap.size w w' := by
  have hv0 : ∀ g, v.ownBlock = some g → g < w.heap.size := fun g hg => (h.row.lt g hg).2
  refine (callsIn_wide (n := 4)).1 ?_
  refine callsIn_of_wp_marks Try.func15 rfl trivial ?_ rfl
  simp only [Try.ntmps15, List.size_toArray, List.length_cons, List.length_nil, Nat.reduceAdd, Nat.reduceSub, Array.replicate_succ, Array.replicate_zero, List.push_toArray, List.append_toArray, List.nil_append, List.cons_append]
  refine wpIn_wide.2 ?_
  have hb0 : Below w.heap.size w (w.alloc (.cells #[.int .i64 0] 3)) := (Below.refl _ _).alloc (Nat.le_refl _) _
  have HA := Lib.hid (all20_any T v ys q _ (h.below hb0))
  go_wp2_with (go_at_call 37; refine HA.out.mono ?_; rintro e w' ⟨rfl, rfl⟩)
  refine (wpIn_wide (n := 4)).1 ?_
  gi_wp2
  have k0 : ((w.alloc (.cells #[.int .i64 0] 3)).alloc (.cells #[v] 59)).heap[w.heap.size]? = some (.cells #[.int .i64 0] 3 (0, 0)) := (Below.heap_alloc _ _ _ (by simp)).trans (heap_alloc_new _ _)
  have k1 : ((w.alloc (.cells #[.int .i64 0] 3)).alloc (.cells #[v] 59)).heap[w.heap.size + 1]? = some (.cells #[v] 59 (0, 0)) := by
    have := heap_alloc_new (w.alloc (.cells #[.int .i64 0] 3)) (.cells #[v] 59)
    simpa using this
  have hB2 : Below w.heap.size w ((w.alloc (.cells #[.int .i64 0] 3)).alloc (.cells #[v] 59)) := hb0.alloc (by simp) _
  have hs2 : ((w.alloc (.cells #[.int .i64 0] 3)).alloc (.cells #[v] 59)).heap.size = w.heap.size + 2 := by simp
  obtain ⟨W2, hW2⟩ : ∃ W2, (w.alloc (.cells #[.int .i64 0] 3)).alloc (.cells #[v] 59) = W2 := ⟨_, rfl⟩
  rw [hW2] at k0 k1 hB2 hs2 ⊢
  have HS := Lib.hid hs2
  clear hW2 hs2 HA hb0
  have hT2 := h.below hB2
  refine range_seqP (gf := 66) (lb := #[.pointer (some ⟨w.heap.size + 1, 0, none⟩)]) rfl (enters_of Try.func66 (by kernel_rfl) rfl)
    (rise_seq _ _ v ys W2 k1 hT2.row (by omega)) (fun _ => rfl)
    (fun h k => h.trans k)
    (fun W l o o' hl hlo _ => ⟨by rw [World.putObj_size]; exact Nat.le_refl _, fun g hg => World.putObj_heap_other (by have := hv0 g hg; have := HS.out; omega)⟩)
    (SumIs w.heap.size W2.heap.size (fun x => x.b.length) w)
    (fun _ _ _ => False)
    (fun pre y a' W => y ∈ ys ∧ a' = { tmps := #[.pointer (some ⟨T, 0, none⟩), undef, .int .i64 0, .pointer (some ⟨w.heap.size, 0, none⟩), undef, .pointer (some ⟨y.p, 0, none⟩), .pointer (some ⟨T, 0, none⟩), .func (.func 66) #[] #[.pointer (some ⟨w.heap.size + 1, 0, none⟩)], .int .i64 y.x.id, .pointer (some ⟨y.p, 0, none⟩), undef, undef, undef, undef, undef, undef, undef], defers := [] })
    (SumIs.grows _ _ _ _) (SumIs.turns (by have := HS.out; omega) (by have := HS.out; omega))
    (by rintro c s A W h; exact h.elim)
    (by rintro c s A l o o' h; exact h.elim)
    ?tTurn ⟨k0, hB2, Nat.le_refl _, Nat.zero_le _⟩ ?tAssign ?tBody ?tDone ?tStop
  case tTurn =>
    rintro pre x a' _ A l o o' h hl hlo ho
    exact h
  case tAssign =>
    rintro l pre x W K hI hY hK
    have hxm : x ∈ ys := List.mem_of_getElem? hY
    dsimp only [encEt]
    gi_wp2
    exact hK _ _ ⟨Nat.le_refl _, fun _ _ _ h _ => h⟩ (KeepRw20.refl _ _) hI ⟨hxm, rfl⟩
  case tBody =>
    rintro l pre y a' W ⟨h1, h2, h3, h4⟩ ⟨hym, rfl⟩ hlen
    obtain ⟨z, hz⟩ : ∃ z, pre.foldr (fun y n => y.x.b.length + n) 0 = z := ⟨_, rfl⟩
    rw [hz] at h1 h4
    obtain ⟨c, hc⟩ : ∃ c, y.x.b.length = c := ⟨_, rfl⟩
    have hz1 : z ≤ 1000000000 := Nat.le_trans h4 (by have : pre.length ≤ 1000 := by omega
                                                     omega)
    have hc1 : c ≤ 1000000 := by rw [← hc]; exact hp y hym
    have HE := Lib.hid (show (pre ++ [y]).foldr (fun y n => y.x.b.length + n) 0 = z + c by rw [fold_push (fun x => x.b.length), hz, hc])
    have HI := Lib.hid (And.intro h1 (And.intro h2 (And.intro h3 (And.intro h4 hc1))))
    have HY := Lib.hid ((h.st y hym).below h2)
    have HC := Lib.hid hc
    have hw1 : IntKind.i64.wrap ((z : Int) + (c : Int)) = (z : Int) + (c : Int) := by rw [IntKind.wrap_i64]; omega
    have c0 := blk_cell (j := 0) h1 rfl
    have l0 := (Array.getElem?_eq_some_iff.1 h1).1
    clear h1 h2 h3 h4 hz hc
    gi_wp2
    refine Moved.wpIn_round 6 [10, 11, 12, 13, 14, 15] [[], [], [(1, 11)], [(2, 12)], [(3, 13)], [(0, 10), (4, 14)]] []
      (fun i v w' => match i with
        | 0 => v = .int .i64 (z : Int)
        | 1 => v = .pointer (some ⟨y.p, 0, none⟩)
        | 2 => v = .pointer (some ⟨y.p, 0, none⟩)
        | 3 => v = .pointer (some ⟨y.p, 5, none⟩)
        | 4 => v = .int .i64 (c : Int)
        | 5 => v = .int .i64 ((z : Int) + (c : Int))
        | _ => True) (by kernel_rfl) (by kernel_rfl) (by kernel_rfl) ?tStab ?tOps ?tLate ?tRest
    case tStab =>
      intro i v w3 w4 h hb
      match i, h with
      | 0, h | 1, h | 2, h | 3, h | 4, h | 5, h => exact h
      | i + 6, _ => trivial
    case tOps =>
      simp only [List.take_succ_cons, List.take_zero, opsOk]
      refine ⟨?_, ?_, ?_, ?_, ?_, ?_, trivial⟩
      · intro ρ w3 hc hf ho hB hj
        have x0 : ρ (.tmp 3) = .pointer (some ⟨w.heap.size, 0, none⟩) := ho 3 (by decide)
        have cc := blk_cell (j := 0) ((hB.block _ l0).trans HI.out.1) rfl
        simp [gives, go_sem, x0, cc, Below.refl]
      · intro ρ w3 hc hf ho hB hj
        have x0 : ρ (.tmp 5) = .pointer (some ⟨y.p, 0, none⟩) := ho 5 (by decide)
        simp [gives, go_sem, x0, Below.refl]
      · intro ρ w3 hc hf ho hB hj
        have x0 : ρ (.tmp 11) = .pointer (some ⟨y.p, 0, none⟩) := hj (1, 11) (by simp)
        simp [gives, go_sem, x0, Below.refl]
      · intro ρ w3 hc hf ho hB hj
        have x0 : ρ (.tmp 12) = .pointer (some ⟨y.p, 0, none⟩) := hj (2, 12) (by simp)
        simp [gives, go_sem, x0, Below.refl]
      · intro ρ w3 hc hf ho hB hj
        have x0 : ρ (.tmp 13) = .pointer (some ⟨y.p, 5, none⟩) := hj (3, 13) (by simp)
        simp [gives, go_sem, x0, hf]
        exact (size20_any y w3 (HY.out.below hB)).mono fun e w' ⟨h1, m, h2⟩ => ⟨.int .i64 (c : Int), by rw [h1, HC.out], rfl, by rw [h2]; exact below_drewN (Below.refl _ _) m⟩
      · intro ρ w3 hc hf ho hB hj
        have x0 : ρ (.tmp 10) = .int .i64 (z : Int) := hj (0, 10) (by simp)
        have x1 : ρ (.tmp 14) = .int .i64 (c : Int) := hj (4, 14) (by simp)
        simp [gives, go_sem, x0, x1, hw1, Below.refl]
    case tLate => intro i hi; cases hi
    case tRest =>
      intro X w3 hBw hX
      have x0 : X 0 = .int .i64 (z : Int) := hX 0 (by decide)
      have x1 : X 1 = .pointer (some ⟨y.p, 0, none⟩) := hX 1 (by decide)
      have x2 : X 2 = .pointer (some ⟨y.p, 0, none⟩) := hX 2 (by decide)
      have x3 : X 3 = .pointer (some ⟨y.p, 5, none⟩) := hX 3 (by decide)
      have x4 : X 4 = .int .i64 (c : Int) := hX 4 (by decide)
      have x5 : X 5 = .int .i64 ((z : Int) + (c : Int)) := hX 5 (by decide)
      simp only [putAll, List.getD_cons_zero, List.getD_cons_succ, Act.put, List.setIfInBounds_toArray, List.set_cons_zero, List.set_cons_succ, List.drop_succ_cons, List.drop_zero]
      rw [x0, x1, x2, x3, x4, x5]
      have HB3 := Lib.hid hBw
      have k0 := (hBw.block _ l0).trans HI.out.1
      have e0 := blk_cell (j := 0) k0 rfl
      have f0 := blk_free (j := 0) k0
      have m0 := (Array.getElem?_eq_some_iff.1 k0).1
      have HK := Lib.hid k0
      clear hX hBw k0
      go_wp2
      refine Moved.Only.intro ?_
      obtain ⟨h1, h2, h3, h4, h5⟩ := HI.out
      have hb3 := HB3.out
      refine ⟨((others_below hb3).trans (KeepsOthers.setCell _ _ _)).from _, ⟨Nat.le_trans hb3.size (by simp [World.setCell]), fun g hg => (Below.heap_setCell _ _ _ _ (by have := hv0 g hg; show g ≠ w.heap.size; omega)).trans (hb3.block g (by have := hv0 g hg; have := HS.out; omega))⟩, ?_, (h2.trans (hb3.mono h2.size)).setCell (p := ⟨w.heap.size, 0, none⟩) (Nat.le_refl _) _, by have := hb3.size; simp [World.setCell]; omega, ?_⟩
      · rw [HE.out]
        have := heap_setCell_same w3 w.heap.size 0 _ _ (.int .i64 ((z : Int) + c)) HK.out
        simpa using this
      · rw [HE.out]
        simp only [List.length_append, List.length_cons, List.length_nil]
        omega
  case tDone =>
    rintro D xs W hD hcame ⟨h1, h2, h3, h4⟩ hDk
    obtain rfl : xs = ys := hcame
    have HE := Lib.hid (show sumB q.l = xs.foldr (fun y n => y.x.b.length + n) 0 by rw [h.e]; exact fold_map (fun x => x.b.length) sumB rfl (fun _ _ => rfl) xs)
    have c0 := blk_cell (j := 0) h1 rfl
    have HB := Lib.hid h2
    clear h1 h2 h3 h4
    gi_wp2
    go_wp2_with fail
    refine ⟨by simp, .inl ⟨_, _, rfl, run_takeDeferred hDk, ?_⟩⟩
    refine ⟨_, results_tmp rfl _ _ _, by rw [HE.out]; rfl, HB.out.trans (below_put _ _ _ (by have := HS.out; omega) hDk)⟩
  case tStop =>
    rintro D c pre W hD hcame h
    exact h.elim
set_option maxHeartbeats 4000000 in
theorem heads20_any (T : Nat) (v : Value) (ys : List Et) (q : Sd) (w : World) (h : SnO w T v ys q) (hl : ys.length ≤ 1000) (hp : ∀ y ∈ ys, y.x.head.length ≤ 1000000) :
    Calls Try.prog 17 #[.pointer (some ⟨T, 0, none⟩)] w fun e w' => e = .returned (.int .i64 (sumH q.l : Nat)) ∧ Below w.heap.size w w' := by
  have hv0 : ∀ g, v.ownBlock = some g → g < w.heap.size := fun g hg => (h.row.lt g hg).2
  refine (callsIn_wide (n := 4)).1 ?_
  refine callsIn_of_wp_marks Try.func17 rfl trivial ?_ rfl
  simp only [Try.ntmps17, List.size_toArray, List.length_cons, List.length_nil, Nat.reduceAdd, Nat.reduceSub, Array.replicate_succ, Array.replicate_zero, List.push_toArray, List.append_toArray, List.nil_append, List.cons_append]
  refine wpIn_wide.2 ?_
  have hb0 : Below w.heap.size w (w.alloc (.cells #[.int .i64 0] 3)) := (Below.refl _ _).alloc (Nat.le_refl _) _
  have HA := Lib.hid (all20_any T v ys q _ (h.below hb0))
  go_wp2_with (go_at_call 37; refine HA.out.mono ?_; rintro e w' ⟨rfl, rfl⟩)
  refine (wpIn_wide (n := 4)).1 ?_
  gi_wp2
  have k0 : ((w.alloc (.cells #[.int .i64 0] 3)).alloc (.cells #[v] 59)).heap[w.heap.size]? = some (.cells #[.int .i64 0] 3 (0, 0)) := (Below.heap_alloc _ _ _ (by simp)).trans (heap_alloc_new _ _)
  have k1 : ((w.alloc (.cells #[.int .i64 0] 3)).alloc (.cells #[v] 59)).heap[w.heap.size + 1]? = some (.cells #[v] 59 (0, 0)) := by
    have := heap_alloc_new (w.alloc (.cells #[.int .i64 0] 3)) (.cells #[v] 59)
    simpa using this
  have hB2 : Below w.heap.size w ((w.alloc (.cells #[.int .i64 0] 3)).alloc (.cells #[v] 59)) := hb0.alloc (by simp) _
  have hs2 : ((w.alloc (.cells #[.int .i64 0] 3)).alloc (.cells #[v] 59)).heap.size = w.heap.size + 2 := by simp
  obtain ⟨W2, hW2⟩ : ∃ W2, (w.alloc (.cells #[.int .i64 0] 3)).alloc (.cells #[v] 59) = W2 := ⟨_, rfl⟩
  rw [hW2] at k0 k1 hB2 hs2 ⊢
  have HS := Lib.hid hs2
  clear hW2 hs2 HA hb0
  have hT2 := h.below hB2
  refine range_seqP (gf := 66) (lb := #[.pointer (some ⟨w.heap.size + 1, 0, none⟩)]) rfl (enters_of Try.func66 (by kernel_rfl) rfl)
    (rise_seq _ _ v ys W2 k1 hT2.row (by omega)) (fun _ => rfl)
    (fun h k => h.trans k)
    (fun W l o o' hl hlo _ => ⟨by rw [World.putObj_size]; exact Nat.le_refl _, fun g hg => World.putObj_heap_other (by have := hv0 g hg; have := HS.out; omega)⟩)
    (SumIs w.heap.size W2.heap.size (fun x => x.head.length) w)
    (fun _ _ _ => False)
    (fun pre y a' W => y ∈ ys ∧ a' = { tmps := #[.pointer (some ⟨T, 0, none⟩), undef, .int .i64 0, .pointer (some ⟨w.heap.size, 0, none⟩), undef, .pointer (some ⟨y.p, 0, none⟩), .pointer (some ⟨T, 0, none⟩), .func (.func 66) #[] #[.pointer (some ⟨w.heap.size + 1, 0, none⟩)], .int .i64 y.x.id, .pointer (some ⟨y.p, 0, none⟩), undef, undef, undef, undef, undef, undef, undef, undef], defers := [] })
    (SumIs.grows _ _ _ _) (SumIs.turns (by have := HS.out; omega) (by have := HS.out; omega))
    (by rintro c s A W h; exact h.elim)
    (by rintro c s A l o o' h; exact h.elim)
    ?tTurn ⟨k0, hB2, Nat.le_refl _, Nat.zero_le _⟩ ?tAssign ?tBody ?tDone ?tStop
  case tTurn =>
    rintro pre x a' _ A l o o' h hl hlo ho
    exact h
  case tAssign =>
    rintro l pre x W K hI hY hK
    have hxm : x ∈ ys := List.mem_of_getElem? hY
    dsimp only [encEt]
    gi_wp2
    exact hK _ _ ⟨Nat.le_refl _, fun _ _ _ h _ => h⟩ (KeepRw20.refl _ _) hI ⟨hxm, rfl⟩
  case tBody =>
    rintro l pre y a' W ⟨h1, h2, h3, h4⟩ ⟨hym, rfl⟩ hlen
    obtain ⟨z, hz⟩ : ∃ z, pre.foldr (fun y n => y.x.head.length + n) 0 = z := ⟨_, rfl⟩
    rw [hz] at h1 h4
    obtain ⟨c, hc⟩ : ∃ c, y.x.head.length = c := ⟨_, rfl⟩
    have hz1 : z ≤ 1000000000 := Nat.le_trans h4 (by have : pre.length ≤ 1000 := by omega
                                                     omega)
    have hc1 : c ≤ 1000000 := by rw [← hc]; exact hp y hym
    have HE := Lib.hid (show (pre ++ [y]).foldr (fun y n => y.x.head.length + n) 0 = z + c by rw [fold_push (fun x => x.head.length), hz, hc])
    have HI := Lib.hid (And.intro h1 (And.intro h2 (And.intro h3 (And.intro h4 hc1))))
    have HY := Lib.hid ((h.st y hym).below h2)
    have HC := Lib.hid hc
    have hw1 : IntKind.i64.wrap ((z : Int) + (c : Int)) = (z : Int) + (c : Int) := by rw [IntKind.wrap_i64]; omega
    have c0 := blk_cell (j := 0) h1 rfl
    have l0 := (Array.getElem?_eq_some_iff.1 h1).1
    obtain ⟨ah, ch, ehv, _⟩ := HY.out.hd
    rw [hc] at ehv
    have HHv := Lib.hid ehv
    clear ehv
    clear h1 h2 h3 h4 hz hc
    gi_wp2
    refine Moved.wpIn_round 7 [10, 11, 12, 13, 14, 15, 16] [[], [], [(1, 11)], [(2, 12)], [(3, 13)], [(4, 14)], [(0, 10), (5, 15)]] []
      (fun i v w' => match i with
        | 0 => v = .int .i64 (z : Int)
        | 1 => v = .pointer (some ⟨y.p, 0, none⟩)
        | 2 => v = .pointer (some ⟨y.p, 0, none⟩)
        | 3 => v = .pointer (some ⟨y.p, 1, none⟩)
        | 4 => v = .slice ah c ch
        | 5 => v = .int .i64 (c : Int)
        | 6 => v = .int .i64 ((z : Int) + (c : Int))
        | _ => True) (by kernel_rfl) (by kernel_rfl) (by kernel_rfl) ?tStab ?tOps ?tLate ?tRest
    case tStab =>
      intro i v w3 w4 h hb
      match i, h with
      | 0, h | 1, h | 2, h | 3, h | 4, h | 5, h | 6, h => exact h
      | i + 7, _ => trivial
    case tOps =>
      simp only [List.take_succ_cons, List.take_zero, opsOk]
      refine ⟨?_, ?_, ?_, ?_, ?_, ?_, ?_, trivial⟩
      · intro ρ w3 hc hf ho hB hj
        have x0 : ρ (.tmp 3) = .pointer (some ⟨w.heap.size, 0, none⟩) := ho 3 (by decide)
        have cc := blk_cell (j := 0) ((hB.block _ l0).trans HI.out.1) rfl
        simp [gives, go_sem, x0, cc, Below.refl]
      · intro ρ w3 hc hf ho hB hj
        have x0 : ρ (.tmp 5) = .pointer (some ⟨y.p, 0, none⟩) := ho 5 (by decide)
        simp [gives, go_sem, x0, Below.refl]
      · intro ρ w3 hc hf ho hB hj
        have x0 : ρ (.tmp 11) = .pointer (some ⟨y.p, 0, none⟩) := hj (1, 11) (by simp)
        simp [gives, go_sem, x0, Below.refl]
      · intro ρ w3 hc hf ho hB hj
        have x0 : ρ (.tmp 12) = .pointer (some ⟨y.p, 0, none⟩) := hj (2, 12) (by simp)
        simp [gives, go_sem, x0, Below.refl]
      · intro ρ w3 hc hf ho hB hj
        have x0 : ρ (.tmp 13) = .pointer (some ⟨y.p, 1, none⟩) := hj (3, 13) (by simp)
        have f1 := (HY.out.below hB).blk.cells.2.1
        rw [HHv.out] at f1
        simp [gives, go_sem, x0, f1, Below.refl]
      · intro ρ w3 hc hf ho hB hj
        have x0 : ρ (.tmp 14) = .slice ah c ch := hj (4, 14) (by simp)
        simp [gives, go_sem, x0, Below.refl]
      · intro ρ w3 hc hf ho hB hj
        have x0 : ρ (.tmp 10) = .int .i64 (z : Int) := hj (0, 10) (by simp)
        have x1 : ρ (.tmp 15) = .int .i64 (c : Int) := hj (5, 15) (by simp)
        simp [gives, go_sem, x0, x1, hw1, Below.refl]
    case tLate => intro i hi; cases hi
    case tRest =>
      intro X w3 hBw hX
      have x0 : X 0 = .int .i64 (z : Int) := hX 0 (by decide)
      have x1 : X 1 = .pointer (some ⟨y.p, 0, none⟩) := hX 1 (by decide)
      have x2 : X 2 = .pointer (some ⟨y.p, 0, none⟩) := hX 2 (by decide)
      have x3 : X 3 = .pointer (some ⟨y.p, 1, none⟩) := hX 3 (by decide)
      have x4 : X 4 = .slice ah c ch := hX 4 (by decide)
      have x5 : X 5 = .int .i64 (c : Int) := hX 5 (by decide)
      have x6 : X 6 = .int .i64 ((z : Int) + (c : Int)) := hX 6 (by decide)
      simp only [putAll, List.getD_cons_zero, List.getD_cons_succ, Act.put, List.setIfInBounds_toArray, List.set_cons_zero, List.set_cons_succ, List.drop_succ_cons, List.drop_zero]
      rw [x0, x1, x2, x3, x4, x5, x6]
      have HB3 := Lib.hid hBw
      have k0 := (hBw.block _ l0).trans HI.out.1
      have e0 := blk_cell (j := 0) k0 rfl
      have f0 := blk_free (j := 0) k0
      have m0 := (Array.getElem?_eq_some_iff.1 k0).1
      have HK := Lib.hid k0
      clear hX hBw k0
      go_wp2
      refine Moved.Only.intro ?_
      obtain ⟨h1, h2, h3, h4, h5⟩ := HI.out
      have hb3 := HB3.out
      refine ⟨((others_below hb3).trans (KeepsOthers.setCell _ _ _)).from _, ⟨Nat.le_trans hb3.size (by simp [World.setCell]), fun g hg => (Below.heap_setCell _ _ _ _ (by have := hv0 g hg; show g ≠ w.heap.size; omega)).trans (hb3.block g (by have := hv0 g hg; have := HS.out; omega))⟩, ?_, (h2.trans (hb3.mono h2.size)).setCell (p := ⟨w.heap.size, 0, none⟩) (Nat.le_refl _) _, by have := hb3.size; simp [World.setCell]; omega, ?_⟩
      · rw [HE.out]
        have := heap_setCell_same w3 w.heap.size 0 _ _ (.int .i64 ((z : Int) + c)) HK.out
        simpa using this
      · rw [HE.out]
        simp only [List.length_append, List.length_cons, List.length_nil]
        omega
  case tDone =>
    rintro D xs W hD hcame ⟨h1, h2, h3, h4⟩ hDk
    obtain rfl : xs = ys := hcame
    have HE := Lib.hid (show sumH q.l = xs.foldr (fun y n => y.x.head.length + n) 0 by rw [h.e]; exact fold_map (fun x => x.head.length) sumH rfl (fun _ _ => rfl) xs)
    have c0 := blk_cell (j := 0) h1 rfl
    have HB := Lib.hid h2
    clear h1 h2 h3 h4
    gi_wp2
    go_wp2_with fail
    refine ⟨by simp, .inl ⟨_, _, rfl, run_takeDeferred hDk, ?_⟩⟩
    refine ⟨_, results_tmp rfl _ _ _, by rw [HE.out]; rfl, HB.out.trans (below_put _ _ _ (by have := HS.out; omega) hDk)⟩
  case tStop =>
    rintro D c pre W hD hcame h
    exact h.elim
end Go.Proofs.Ytnoegbdmjinfjaa
