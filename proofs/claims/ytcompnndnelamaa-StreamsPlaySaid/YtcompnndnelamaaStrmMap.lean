
/-
  Layer 17: a map of numbers to bools that are true, as the set of its keys, which rise. No function of the program is named here.
-/
import Derived.Test.YtcompnndnelamaaStrmMath
import Derived.Maps.OwnSet
import Derived.Maps.OwnOps
import Derived.Lib.SlKeysI
namespace Go.Proofs.Ytcompnndnelamaa
open Go.RowKit Go.Maps

/-- the datum of a set of numbers -/
def datA (A : List Int) : DataW Unit := .map (A.map fun x => (Lit.int .i64 x, DataW.lit (.bool true)))
theorem datA_size (A : List Int) : Maps.size (datA A) = A.length := by simp [Maps.size, datA]
theorem datA_keys (A : List Int) : intKeys (datA A) = A := by simp [intKeys, datA, intOf, Function.comp_def]
theorem datA_nil : datA [] = .map [] := rfl
theorem datA_del (A : List Int) (n : Int) : (datA A).del (.int .i64 n) = datA (woutL A n) := by
  unfold datA DataW.del woutL
  simp only [List.filter_map, Function.comp_def, Lit.sameKey]
  congr 2
  exact List.filter_congr fun x _ => by simp
theorem datA_insert (n : Int) : ∀ A : List Int, (∀ x ∈ A, x < n) → DataW.insert ((Lit.int .i64 n, DataW.lit (.bool true)) : Lit × DataW Unit) (A.map fun x => (Lit.int .i64 x, DataW.lit (.bool true))) = (A ++ [n]).map fun x => (Lit.int .i64 x, DataW.lit (.bool true))
  | [], _ => rfl
  | a :: r, h => by
    have h1 := h a (.head _)
    have h2 : decide (n < a) = false := decide_eq_false (by omega)
    simp only [List.map_cons, DataW.insert, Lit.before, h2, Bool.false_eq_true, if_false, List.cons_append, datA_insert n r fun x hx => h x (.tail _ hx)]
theorem datA_put {A : List Int} {n : Int} (h : ∀ x ∈ A, x < n) : (datA A).put (.int .i64 n) (.lit (.bool true)) = datA (A ++ [n]) := by
  unfold datA DataW.put
  have e : (A.map fun x => ((Lit.int .i64 x, DataW.lit (.bool true)) : Lit × DataW Unit)).filter (fun p => !p.1.sameKey (.int .i64 n)) = A.map fun x => (Lit.int .i64 x, DataW.lit (.bool true)) := by
    rw [List.filter_eq_self]
    intro p hp
    obtain ⟨x, hx, rfl⟩ := List.mem_map.1 hp
    have := h x hx
    simp [Lit.sameKey]
    omega
  simp only [e, datA_insert n A h]
theorem datA_at (n : Int) : ∀ A : List Int, (datA A).atKey (.int .i64 n) (.lit (.bool false)) = .lit (.bool (decide (n ∈ A)))
  | [] => by simp [datA, DataW.atKey]
  | a :: r => by
    have ih := datA_at n r
    unfold datA DataW.atKey at ih ⊢
    by_cases e : a = n
    · subst e
      simp [Lit.sameKey]
    · have e' : ¬ n = a := fun h => e h.symm
      simp only [List.map_cons, List.find?_cons, Lit.sameKey, e, and_false, decide_false] at ih ⊢
      rw [ih]
      simp [e']

theorem plainElem_bool_inv {H : Type} {P : Program} {e : TypeId} (he : P.underlying e = some .bool) {v : Value} {z : DataW H × List MemPlace} (h : plainElem P e v = some z) : ∃ x, v = .bool x ∧ z = (.lit (.bool x), []) := by
  unfold plainElem at h
  rw [he] at h
  cases v <;> simp at h
  subst h
  exact ⟨_, rfl, rfl⟩

/-- the map in block M holds the numbers A -/
def MpA (P : Program) (k e : TypeId) (w : World) (M : Nat) (A : List Int) : Prop := w.ownsMap P k (plainElem (H := Unit) P e) M A.length (datA A)
section
variable {P : Program} {t k e : TypeId} {w w' : World} {M : Nat} {A : List Int}
theorem MpA.of {n : Nat} (h : w.ownsMap P k (plainElem (H := Unit) P e) M n (datA A)) : MpA P k e w M A := by
  obtain ⟨es, clock, hb, F, hs, hD⟩ := h
  refine ⟨es, clock, hb, F, ?_, hD⟩
  have := congrArg Maps.size hD
  rw [datA_size] at this
  rw [this]
  simp [Maps.size, length_sorted]
theorem MpA.lt (h : MpA P k e w M A) : M < w.heap.size := World.ownsMap.lt h
theorem MpA.block (h : MpA P k e w M A) (hb : w'.heap[M]? = w.heap[M]?) : MpA P k e w' M A := by
  obtain ⟨es, clock, h1, F, hs, hD⟩ := h
  exact ⟨es, clock, hb.trans h1, F, hs, hD⟩
theorem MpA.nil (w : World) : MpA P k e (w.alloc (.map #[] 0)) w.heap.size [] := World.ownsMap_made w P k _
/-- no row of cells lies in its block -/
theorem MpA.ne (h : MpA P k e w M A) {g : Nat} {cs : Array Value} {ty : TypeId} {fr : Nat × Nat} (hg : w.heap[g]? = some (.cells cs ty fr)) : M ≠ g := by
  rintro rfl
  obtain ⟨es, clock, h1, _⟩ := h
  rw [hg] at h1
  cases h1
/-- 'm[n]', whatever n -/
theorem MpA.look (h : MpA P k e w M A) (hk : P.underlying k = some (.int .i64)) (he : P.underlying e = some .bool) (ht : P.underlying t = some (.map k e)) (hz : (zeroValue e).run P w = .ok (.bool false) w) (hA : ∀ x ∈ A, (Lit.int .i64 x).wf = true) (n : Int) :
    (Instr.lookup t (.map (some M)) (.int .i64 n) false).run P w = .ok (.bool (decide (n ∈ A))) w := by
  by_cases hw : (Lit.int .i64 n).wf = true
  · obtain ⟨v, ps, hrun, hv⟩ := World.ownsMap.lookup h (int_keyed hk) ht hz (plainElem_bool he false) (keyOf_int_mk hk hw)
    obtain ⟨x, rfl, hx⟩ := plainElem_bool_inv he hv
    rw [datA_at] at hx
    simp only [Prod.mk.injEq, DataW.lit.injEq, Lit.bool.injEq] at hx
    rw [hrun, hx.1]
  · have hn : decide (n ∈ A) = false := decide_eq_false fun hm => hw (hA n hm)
    obtain ⟨es, clock, hb, F, hs, hD⟩ := h
    have hks : ∀ y ∈ es.toList, MapKept.IsKey (.int .i64) y.key := fun y hy => by
      obtain ⟨l, hl⟩ := F.keys y hy
      obtain ⟨x, e1, _⟩ := Maps.keyOf_i64 hk hl
      rw [e1]
      rfl
    rcases MapKept.findNow_spec (d := .int .i64) (k := .int .i64 n) rfl es.toList 0 hks with ⟨h1, _⟩ | ⟨j, e0, h1, h2, h3⟩
    · simp [Instr.lookup, run_underlying ht, MapKept.run_getObj_map hb, MapKept.run_checkKey hk (k := .int .i64 n) rfl, MapKept.run_findKey hk h1, hz, hn, Result.andThen]
    · exfalso
      obtain ⟨l, hl⟩ := F.keys e0 (List.mem_of_getElem? h2)
      obtain ⟨x, e1, _, hwx⟩ := Maps.keyOf_i64 hk hl
      rw [h3] at e1
      injection e1 with _ e2
      rw [e2] at hw
      exact hw hwx
theorem MpA.len (h : MpA P k e w M A) (ht : P.underlying t = some (.map k e)) (ty : TypeId) : (Builtin.len_ #[t] ty #[.map (some M)]).run P w = .ok (.int .i64 A.length) w := by
  have := World.ownsMap.len h ht ty
  rwa [datA_size] at this
/-- 'm[n] = true', n greater than all -/
theorem MpA.store (h : MpA P k e w M A) (hk : P.underlying k = some (.int .i64)) (he : P.underlying e = some .bool) (ht : P.underlying t = some (.map k e)) {n : Int} (hw : (Lit.int .i64 n).wf = true) (hA : ∀ x ∈ A, x < n) (hl : A.length < maxLen) :
    ∃ w', (Instr.mapUpdate t (.map (some M)) (.int .i64 n) (.bool true)).run P w = .ok () w' ∧ MpA P k e w' M (A ++ [n]) ∧ w.grownBy w' (some M) := by
  obtain ⟨w', hrun, r1, r2⟩ := World.ownsMap.store h (int_keyed hk) ht hl (keyOf_int_mk hk hw) (plainElem_bool he true)
  rw [datA_put hA] at r1
  exact ⟨w', hrun, MpA.of r1, r2.grown⟩
/-- 'delete(m, n)' -/
theorem MpA.drop (h : MpA P k e w M A) (hk : P.underlying k = some (.int .i64)) (ht : P.underlying t = some (.map k e)) {n : Int} (hw : (Lit.int .i64 n).wf = true) (ty : TypeId) :
    ∃ w', (Builtin.delete_ #[t, k] ty #[.map (some M), .int .i64 n]).run P w = .ok (.tuple #[]) w' ∧ MpA P k e w' M (woutL A n) ∧ w.grownBy w' (some M) := by
  obtain ⟨w', hrun, r1, r2⟩ := World.ownsMap.drop h (int_keyed hk) ht (keyOf_int_mk hk hw) ty
  rw [datA_del] at r1
  exact ⟨w', hrun, MpA.of r1, r2.grown⟩
end
end Go.Proofs.Ytcompnndnelamaa
