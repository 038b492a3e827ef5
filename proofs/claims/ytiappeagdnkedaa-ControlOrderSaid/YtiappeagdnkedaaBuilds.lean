
/-
  A law for many array or struct literals, one behind the other: what they build is reckoned by the kernel. No program is named here.
-/
import Derived.WalkKit
import Derived.Great.BuildSlice
namespace Go.Proofs.Ytiappeagdnkedaa
open Go.RowKit

/-- the frame behind n operations that build -/
def buildAll (P : Program) : Nat → List Oper → Act → Option Act
  | 0, _, a => some a
  | _ + 1, [], _ => none
  | n + 1, o :: l, a =>
    match o.guard, o.op with
    | none, .build t parts =>
      match P.built t (parts.map fun (i, x) => (i, a.eval x)).toList with
      | some cells => buildAll P n l (a.put o.dst (.agg cells))
      | none => none
    | _, _ => none

theorem wpList_buildAll0 {P : Program} {ops : Array Oper} {Q : Exit → Act → World → Prop} : ∀ (n : Nat) {l : List Oper} {a a' : Act} {w : World},
    buildAll P n l a = some a' → wpList P ops Q (l.drop n) a' w → wpList P ops Q l a w
  | 0, l, a, a', w, h, k => by
    simp only [buildAll, Option.some.injEq] at h
    subst h
    exact k
  | n + 1, [], a, a', w, h, k => by simp [buildAll] at h
  | n + 1, o :: l, a, a', w, h, k => by
    unfold buildAll at h
    split at h
    · rename_i t parts hg ho
      split at h
      · rename_i cells hc
        exact wpList_buildTo hg t parts ho o.dst rfl cells hc (wpList_buildAll0 n h k)
      · cases h
    · cases h
/-- the same, its list's length said first, so that no other list is taken -/
theorem wpList_buildAll {P : Program} {ops : Array Oper} {Q : Exit → Act → World → Prop} {l : List Oper} {a : Act} {w : World} (m n : Nat) (_hm : l.length = m) (ts : Array Value)
    (h : buildAll P n l a = some { a with tmps := ts }) (k : wpList P ops Q (l.drop n) { a with tmps := ts } w) : wpList P ops Q l a w := wpList_buildAll0 n h k
/-- two results, the first of which lies in a block of its own -/
theorem results_row_tmp1 {P : Program} {fn : Func} {p u : Tmp} {ty : TypeId} (h : fn.results = #[.cell p ty, .tmp u]) (tmps : Array Value) (w : World) (g : Nat) (t : TypeId) (cs : Array Value) (fr : Nat × Nat) (d : TypeDesc)
    (hp : tmps.getD p undef = .pointer (some ⟨g, 0, none⟩)) (hg : w.heap[g]? = some (.cells cs t fr))
    (hu : P.underlying ty = some d) (hd : (match d with | .struct _ | .array _ _ => true | _ => false) = true) (hi : (P.info? ty).map (·.size) = some cs.size) :
    (results fn tmps).run P w = .ok (.tuple #[.agg cs, tmps.getD u undef]) w := by
  have hp' : tmps[p]?.getD undef = .pointer (some ⟨g, 0, none⟩) := by simpa using hp
  simp [results, h, hp', asAddr, run_loadVar_row w g t ty cs fr d hg hu hd hi, Result.andThen]
/-- a slice literal of constants of one cell each, every place written -/
theorem wpList_buildOnes {P : Program} {ops : Array Oper} {rest : List Oper} {o : Oper} {a : Act} {w : World} {Q : Exit → Act → World → Prop} (hg : o.guard = none) (t e : TypeId) (len : Nat) (parts : Array (Nat × Operand)) (ho : o.op = .buildSlice t len parts)
    (vs : List Value) (hu : P.underlying t = some (.slice e)) (hsz : (P.info? e).map (·.size) = some 1) (hz : ((P.info? e).bind (·.zero)).isSome = true)
    (hlen : len = vs.length) (hpos : 0 < len) (hsmall : len ≤ 2 ^ 24)
    (hparts : parts.toList = (vs.zipIdx 0).map fun x => (x.2, Operand.const x.1)) (h1 : ∀ v ∈ vs, v.cells = #[v])
    (h : wpList P ops Q rest (a.put o.dst (.slice (some ⟨w.heap.size, 0, none⟩) len len)) (w.alloc (.cells vs.toArray e))) : wpList P ops Q (o :: rest) a w := by
  cases hie : P.info? e with
  | none => simp [hie] at hsz
  | some ie =>
    simp only [hie, Option.map_some, Option.some.injEq, Option.bind_some] at hsz hz
    obtain ⟨z, hzz⟩ := Option.isSome_iff_exists.1 hz
    refine wpList_buildSlice hg t e len parts ho _ ie z hu hie hzz (by rw [hsz]; omega) (by rw [hsz]; omega) ?_ h
    have e1 : (parts.map fun (i, x) => (i, a.eval x)).toList = (vs.zipIdx 0).map fun x => (x.2, x.1) := by
      rw [Array.toList_map, hparts, List.map_map]
      rfl
    rw [e1, hsz]
    exact Great.fill_flat _ _ h1 (by simp [hlen])
/-- the address of a slice's element -/
theorem run_index_sl {P : Program} {t : TypeId} {s : Nat} (ht : P.underlying t = some (.slice (P.elem t))) (he : ∀ w, (sizeOf (P.elem t)).run P w = .ok s w) (b off n cap k : Nat) (hk : k < n) (q : IntKind) (W : World) :
    (Instr.indexAt t (.slice (some ⟨b, off, none⟩) n cap) (.int q k)).run P W = .ok (.pointer (some ⟨b, off + k * s, none⟩)) W := by
  rw [run_indexAt_slice W t ⟨b, off, none⟩ n cap q k ht, if_pos ⟨by omega, by omega⟩, he]
  simp [Result.andThen, Go.WideShapes.add_plain]
end Go.Proofs.Ytiappeagdnkedaa
