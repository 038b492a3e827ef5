
/-
  Items: Encode whatever the item; the law's own copy of an item; whether two items are one.
-/
import Derived.Test.YtimggejonppegaaDoorItBack
import Derived.Test.YtimggejonppegaaDoorItRefEnc
import Derived.Laws.StructEq
namespace Go.Proofs.YtimggejonppegaaDoor
open Go.RowKit

theorem iEnc_any (k n : Int) (a b : ByteArray) (w : World) (hT : ShT w) :
    Calls Tryd.prog 6 #[itV k n a b] w fun e w' => ∃ v, e = .returned (.tuple #[v, .int .i64 (encT k n a b).2]) ∧ Sl .u8 w' v (encT k n a b).1 ∧ Below w.heap.size w w' := by
  by_cases h : rightI k n a b
  · rw [encT, if_pos h]
    have hl := encI_length h
    have hs := rightI_sizes h
    refine (iEnc_yes k n a b w hT h).mono ?_
    rintro e w' ⟨v, rfl, hO, hb⟩
    exact ⟨v, rfl, Sl.of_own hO (encI_fit h) (by show (encI k n a b).length ≤ maxLen; unfold maxLen; omega), hb⟩
  · rw [encT, if_neg h]
    refine (iEnc_no k n a b w hT h).mono ?_
    rintro e w' ⟨rfl, hb⟩
    exact ⟨_, rfl, Sl.nil _ _, hb⟩
theorem refIEnc_any (k n : Int) (a b : ByteArray) (w : World) :
    Calls Tryd.prog 7 #[itV k n a b] w fun e w' => ∃ v, e = .returned (.tuple #[v, .int .i64 (encT k n a b).2]) ∧ Sl .u8 w' v (encT k n a b).1 ∧ Below w.heap.size w w' := by
  by_cases h : rightI k n a b
  · rw [encT, if_pos h]
    have hl := encI_length h
    have hs := rightI_sizes h
    refine (refIEnc_yes k n a b w h).mono ?_
    rintro e w' ⟨v, rfl, hO, hb⟩
    exact ⟨v, rfl, Sl.of_own hO (encI_fit h) (by show (encI k n a b).length ≤ maxLen; unfold maxLen; omega), hb⟩
  · rw [encT, if_neg h]
    refine (refIEnc_no k n a b w h).mono ?_
    rintro e w' ⟨rfl, hb⟩
    exact ⟨_, rfl, Sl.nil _ _, hb⟩

theorem it_held : Tryd.prog.stoodInHeld 23 = false := by kernel_rfl
theorem it_struct : Tryd.prog.underlying 23 = some (.struct (Tryd.prog.fieldsOf 23)) := by kernel_rfl
theorem it_fields : ((Tryd.prog.fieldsOf 23).toList.map fun f => (f.name, f.type, f.offset)) = [("Kind", 3, 0), ("N", 3, 1), ("Name", 9, 2), ("Value", 9, 3)] := by kernel_rfl
theorem it30_held : Tryd.prog.stoodInHeld 30 = false := by kernel_rfl
theorem it30_struct : Tryd.prog.underlying 30 = some (.struct (Tryd.prog.fieldsOf 30)) := by kernel_rfl
theorem it30_fields : ((Tryd.prog.fieldsOf 30).toList.map fun f => (f.name, f.type, f.offset)) = [("Kind", 3, 0), ("N", 3, 1), ("Name", 9, 2), ("Value", 9, 3)] := by kernel_rfl
theorem it_part0 (k n : Int) (a b : ByteArray) (w : World) : (part 3 #[.int .i64 k, .int .i64 n, .string a, .string b] 0).run Tryd.prog w = .ok (.int .i64 k) w := by kernel_rfl
theorem it_part1 (k n : Int) (a b : ByteArray) (w : World) : (part 3 #[.int .i64 k, .int .i64 n, .string a, .string b] 1).run Tryd.prog w = .ok (.int .i64 n) w := by kernel_rfl
theorem it_part2 (k n : Int) (a b : ByteArray) (w : World) : (part 9 #[.int .i64 k, .int .i64 n, .string a, .string b] 2).run Tryd.prog w = .ok (.string a) w := by kernel_rfl
theorem it_part3 (k n : Int) (a b : ByteArray) (w : World) : (part 9 #[.int .i64 k, .int .i64 n, .string a, .string b] 3).run Tryd.prog w = .ok (.string b) w := by kernel_rfl
/-- whether two items are one -/
def eqI (k n : Int) (a b : ByteArray) (k' n' : Int) (a' b' : ByteArray) : Bool := k == k' && (n == n' && (a.toList == a'.toList && b.toList == b'.toList))
theorem toList_inj8 {a b : ByteArray} (h : a.toList = b.toList) : a = b := by
  rw [ByteArray.toList_eq, ByteArray.toList_eq] at h
  exact ByteArray.ext (Array.toList_inj.1 h)
theorem eqI_self (k n : Int) (a b : ByteArray) : eqI k n a b k n a b = true := by simp [eqI]
theorem eqFields_it {P : Program} (w : World) (tI tS : TypeId) (hI : P.underlying tI = some (.int .i64)) (hS : P.underlying tS = some .string) (k n k' n' : Int) (a b a' b' : ByteArray) (fs : List Field)
    (hf : (fs.map fun f => (f.name, f.type, f.offset)) = [("Kind", tI, 0), ("N", tI, 1), ("Name", tS, 2), ("Value", tS, 3)])
    (p0 : ∀ (k n : Int) (a b : ByteArray) (w : World), (part tI #[.int .i64 k, .int .i64 n, .string a, .string b] 0).run P w = .ok (.int .i64 k) w) (p1 : ∀ (k n : Int) (a b : ByteArray) (w : World), (part tI #[.int .i64 k, .int .i64 n, .string a, .string b] 1).run P w = .ok (.int .i64 n) w)
    (p2 : ∀ (k n : Int) (a b : ByteArray) (w : World), (part tS #[.int .i64 k, .int .i64 n, .string a, .string b] 2).run P w = .ok (.string a) w) (p3 : ∀ (k n : Int) (a b : ByteArray) (w : World), (part tS #[.int .i64 k, .int .i64 n, .string a, .string b] 3).run P w = .ok (.string b) w) :
    (Op.eqFields 9999 #[.int .i64 k, .int .i64 n, .string a, .string b] #[.int .i64 k', .int .i64 n', .string a', .string b'] fs).run P w = .ok (eqI k n a b k' n' a' b') w := by
  match fs, hf with
  | [], hf => simp at hf
  | [_], hf => simp at hf
  | [_, _], hf => simp at hf
  | [_, _, _], hf => simp at hf
  | _ :: _ :: _ :: _ :: _ :: _, hf => simp at hf
  | [f, g, h, i], hf =>
    simp only [List.map_cons, List.map_nil, List.cons.injEq, Prod.mk.injEq, and_true] at hf
    obtain ⟨⟨f1, f2, f3⟩, ⟨g1, g2, g3⟩, ⟨h1, h2, h3⟩, ⟨i1, i2, i3⟩⟩ := hf
    have ne1 : ("Kind" : String) ≠ "_" := by decide
    have ne2 : ("N" : String) ≠ "_" := by decide
    have ne3 : ("Name" : String) ≠ "_" := by decide
    have ne4 : ("Value" : String) ≠ "_" := by decide
    simp only [Op.eqFields, f1, f2, f3, g1, g2, g3, h1, h2, h3, i1, i2, i3, ne1, ne2, ne3, ne4, ne_eq, not_false_eq_true, if_true, Sem.run_bind, p0, Result.andThen_ok, run_equalIn_int w 9998 tI _ _ _ _ hI]
    rw [eqI]
    cases e1 : (k == k')
    · simp
    · simp only [Bool.not_true, Bool.false_eq_true, if_false, Sem.run_bind, p1, Result.andThen_ok, run_equalIn_int w 9998 tI _ _ _ _ hI]
      cases e2 : (n == n')
      · simp
      · simp only [Bool.not_true, Bool.false_eq_true, if_false, Sem.run_bind, p2, Result.andThen_ok, run_equalIn_string w 9998 tS _ _ hS]
        cases e3 : (a.toList == a'.toList)
        · simp
        · simp only [Bool.not_true, Bool.false_eq_true, if_false, Sem.run_bind, p3, Result.andThen_ok, run_equalIn_string w 9998 tS _ _ hS]
          cases e4 : (b.toList == b'.toList) <;> simp
theorem it_eql (k n k' n' : Int) (a b a' b' : ByteArray) (w : World) : (binOp .eql 23 (.agg #[.int .i64 k, .int .i64 n, .string a, .string b]) (.agg #[.int .i64 k', .int .i64 n', .string a', .string b'])).run Tryd.prog w = .ok (.bool (eqI k n a b k' n' a' b')) w := by
  rw [run_eql_struct, run_equalIn_agg w 9999 23 _ _ it_struct it_held, eqFields_it w 3 9 Tryd.underlying3 Tryd.underlying9 _ _ _ _ _ _ _ _ _ it_fields it_part0 it_part1 it_part2 it_part3]
  rfl
theorem it_neq (k n k' n' : Int) (a b a' b' : ByteArray) (w : World) : (binOp .neq 23 (.agg #[.int .i64 k, .int .i64 n, .string a, .string b]) (.agg #[.int .i64 k', .int .i64 n', .string a', .string b'])).run Tryd.prog w = .ok (.bool (!eqI k n a b k' n' a' b')) w := by
  rw [run_neq_struct, run_equalIn_agg w 9999 23 _ _ it_struct it_held, eqFields_it w 3 9 Tryd.underlying3 Tryd.underlying9 _ _ _ _ _ _ _ _ _ it_fields it_part0 it_part1 it_part2 it_part3]
  rfl
theorem it30_eql (k n k' n' : Int) (a b a' b' : ByteArray) (w : World) : (binOp .eql 30 (.agg #[.int .i64 k, .int .i64 n, .string a, .string b]) (.agg #[.int .i64 k', .int .i64 n', .string a', .string b'])).run Tryd.prog w = .ok (.bool (eqI k n a b k' n' a' b')) w := by
  rw [run_eql_struct, run_equalIn_agg w 9999 30 _ _ it30_struct it30_held, eqFields_it w 3 9 Tryd.underlying3 Tryd.underlying9 _ _ _ _ _ _ _ _ _ it30_fields it_part0 it_part1 it_part2 it_part3]
  rfl

/-- one result, which lies in a block of its own -/
theorem results_row0 {P : Program} {fn : Func} {p : Tmp} {ty : TypeId} (h : fn.results = #[.cell p ty]) (tmps : Array Value) (w : World) (g : Nat) (t : TypeId) (cs : Array Value) (fr : Nat × Nat) (d : TypeDesc)
    (hp : tmps.getD p undef = .pointer (some ⟨g, 0, none⟩)) (hg : w.heap[g]? = some (.cells cs t fr))
    (hu : P.underlying ty = some d) (hd : (match d with | .struct _ | .array _ _ => true | _ => false) = true) (hi : (P.info? ty).map (·.size) = some cs.size) :
    (results fn tmps).run P w = .ok (.agg cs) w := by
  have hp' : tmps[p]?.getD undef = .pointer (some ⟨g, 0, none⟩) := by simpa using hp
  simp [results, h, hp', asAddr, run_loadVar_row w g t ty cs fr d hg hu hd hi]

theorem of_any (k n : Int) (a b : ByteArray) (w : World) :
    Calls Tryd.prog 8 #[itV k n a b] w fun e w' => e = .returned (itV k n a b) ∧ Below w.heap.size w w' := by
  unfold itV
  go_enter Tryd.func8, Tryd.ntmps8
  go_wp2_with fail
  refine bodyPost_ret (results_row0 rfl _ _ (w.heap.size + 1) 30 #[.int .i64 k, .int .i64 n, .string a, .string b] (0, 0) _ rfl ?_ Tryd.underlying30 rfl (by kernel_rfl)) rfl ⟨rfl, ?_⟩
  · simpa using heap_alloc_new (w.alloc (.cells #[.int .i64 k, .int .i64 n, .string a, .string b] 23)) (.cells #[.int .i64 k, .int .i64 n, .string a, .string b] 30)
  · exact ((Below.refl _ _).alloc (Nat.le_refl _) _).alloc (by simp) _
end Go.Proofs.YtimggejonppegaaDoor
