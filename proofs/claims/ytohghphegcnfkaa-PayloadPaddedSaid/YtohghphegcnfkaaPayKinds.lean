
/-
  Layer 11, the program's own: the map of the kinds, and what it has at a kind.
-/
import Derived.Test.YtohghphegcnfkaaProg
import Derived.Test.YtohghphegcnfkaaKit
import Derived.MapKept
import Derived.BigQuiet
import Derived.Deep.QuietTactic
namespace Go.Proofs.Ytohghphegcnfkaa
set_option maxRecDepth 20000
open Go.RowKit

/-- the function of a kind -/
def knF (k : Nat) : Value :=
  match k with
  | 0 => .func (.func 14) #[] #[]
  | 1 => .func (.func 15) #[] #[]
  | 2 => .func (.func 16) #[] #[]
  | 3 => .func (.func 17) #[] #[]
  | 4 => .func (.func 18) #[] #[]
  | 5 => .func (.func 19) #[] #[]
  | 6 => .func (.func 20) #[] #[]
  | 7 => .func (.func 21) #[] #[]
  | 8 => .func (.func 22) #[] #[]
  | 9 => .func (.func 23) #[] #[]
  | _ => .nilFunc
/-- the first so many entries -/
def knL : Nat → List MapEntry
  | 0 => []
  | n + 1 => knL n ++ [{ key := .int .i64 (n : Int), val := knF n, born := n }]
def knA (n : Nat) : Array MapEntry := (knL n).toArray
theorem knL_find (q : IntKind) (hq : q = .i64) (k : Int) : ∀ (n i : Nat), (∀ j : Nat, j < n → k ≠ j) → Instr.findNow (.int q) (.int .i64 k) (knL n) i = some none ∧ ∀ r, Instr.findNow (.int q) (.int .i64 k) (knL n ++ r) i = Instr.findNow (.int q) (.int .i64 k) r (i + n) := by
  subst hq
  intro n
  induction n with
  | zero => intro i _; exact ⟨rfl, fun r => rfl⟩
  | succ n ih =>
    intro i h
    obtain ⟨h1, h2⟩ := ih i (fun j hj => h j (by omega))
    have hne : (k == (n : Int)) = false := by simpa using h n (by omega)
    have h3 : ∀ r, Instr.findNow (.int .i64) (.int .i64 k) (knL (n + 1) ++ r) i = Instr.findNow (.int .i64) (.int .i64 k) r (i + (n + 1)) := fun r => by
      rw [show knL (n + 1) ++ r = knL n ++ ({ key := .int .i64 (n : Int), val := knF n, born := n } :: r) by simp [knL], h2]
      simp [Instr.findNow, Instr.sameNow, hne, Nat.add_assoc]
    exact ⟨by have := h3 []; rw [List.append_nil] at this; rw [this]; rfl, h3⟩
theorem knL_at (k : Nat) (r : List MapEntry) : Instr.findNow (.int .i64) (.int .i64 (k : Int)) (knL (k + 1) ++ r) 0 = some (some (k, knF k)) := by
  rw [show knL (k + 1) ++ r = knL k ++ ({ key := .int .i64 (k : Int), val := knF k, born := k } :: r) by simp [knL], (knL_find .i64 rfl k k 0 (fun j hj => by omega)).2]
  simp [Instr.findNow, Instr.sameNow]
theorem get_map11 (W : World) (B : Nat) (es : Array MapEntry) (c : Nat) (hb : W.heap[B]? = some (.map es c)) : (getObj B).run Try.prog W = .ok (.map es c) W := by simp [getObj, Sem.run, hb]
theorem set_map11 (W : World) (B : Nat) (es : Array MapEntry) (c : Nat) (o : Obj) (hb : W.heap[B]? = some (.map es c)) : (setObj B o).run Try.prog W = .ok () { W with heap := W.heap.setIfInBounds B o } := by simp [setObj, Sem.run, hb]
theorem push_set11 (h : Array Obj) (a b : Obj) : (h.push a).setIfInBounds h.size b = h.push b := by
  apply Array.ext
  · simp
  · intro i h1 h2
    simp only [Array.size_push] at h2
    by_cases hi : i = h.size
    · subst hi; simp
    · rw [Array.getElem_setIfInBounds_ne (by simpa using h2) (fun e => hi e.symm), Array.getElem_push_lt (by omega), Array.getElem_push_lt (by omega)]
theorem ins_kn (w : World) (n : Nat) : (Instr.mapUpdate 48 (.map (some w.heap.size)) (.int .i64 (n : Int)) (knF n)).run Try.prog (w.alloc (.map (knA n) n)) = .ok () (w.alloc (.map (knA (n + 1)) (n + 1))) := by
  have hu : Try.prog.underlying 48 = some (.map 22 46) := by kernel_rfl
  have hk : Try.prog.underlying 22 = some (.int .i64) := by kernel_rfl
  have hb : (w.alloc (.map (knA n) n)).heap[w.heap.size]? = some (.map (knA n) n) := heap_alloc_new w _
  have hf : Instr.findNow (.int .i64) (.int .i64 (n : Int)) (knA n).toList 0 = some none := (knL_find .i64 rfl n n 0 (fun j hj => by omega)).1
  have hc : (Instr.checkKey false 10000 22 (.int .i64 (n : Int))).run Try.prog (w.alloc (.map (knA n) n)) = .ok () (w.alloc (.map (knA n) n)) := by
    rw [show (10000 : Nat) = 9999 + 1 from rfl]
    unfold Instr.checkKey
    simp only [Sem.run_bind, run_underlying hk, Result.andThen]
    rfl
  have hg : (getObj w.heap.size).run Try.prog (w.alloc (.map (knA n) n)) = .ok (.map (knA n) n) (w.alloc (.map (knA n) n)) := get_map11 _ _ _ _ hb
  have he : (knA n).push { key := .int .i64 (n : Int), val := knF n, born := n } = knA (n + 1) := by simp [knA, knL]
  have hs : (setObj w.heap.size (.map (knA (n + 1)) (n + 1))).run Try.prog (w.alloc (.map (knA n) n)) = .ok () (w.alloc (.map (knA (n + 1)) (n + 1))) := by
    rw [set_map11 _ _ _ _ _ hb]
    show Result.ok () ({ w with heap := (w.heap.push (.map (knA n) n)).setIfInBounds w.heap.size (.map (knA (n + 1)) (n + 1)) } : World) = Result.ok () ({ w with heap := w.heap.push (.map (knA (n + 1)) (n + 1)) } : World)
    rw [push_set11]
  unfold Instr.mapUpdate
  simp only [Sem.run_bind, run_underlying hu, Result.andThen_ok, hg, hc, Instr.findKey, run_underlying hk, hf, Sem.run_pure, he, hs]
theorem look_kn (W : World) (B : Nat) (hb : W.heap[B]? = some (.map (knA 10) 10)) (k : Int) (v : Value) (b : Bool) (hv : (∃ n : Nat, n < 10 ∧ k = n ∧ v = knF n ∧ b = true) ∨ ((k < 0 ∨ 9 < k) ∧ v = .nilFunc ∧ b = false)) :
    (Instr.lookup 48 (.map (some B)) (.int .i64 k) true).run Try.prog W = .ok (.tuple #[v, .bool b]) W := by
  have hu : Try.prog.underlying 48 = some (.map 22 46) := by kernel_rfl
  have hk : Try.prog.underlying 22 = some (.int .i64) := by kernel_rfl
  have hc : ∀ e, (Instr.checkKey e 10000 22 (.int .i64 k)).run Try.prog W = .ok () W := fun e => by
    rw [show (10000 : Nat) = 9999 + 1 from rfl]
    unfold Instr.checkKey
    simp only [Sem.run_bind, run_underlying hk, Result.andThen]
    rfl
  have hg : (getObj B).run Try.prog W = .ok (.map (knA 10) 10) W := by simp [getObj, Sem.run, hb]
  have hz : (zeroValue 46).run Try.prog W = .ok .nilFunc W := by kernel_rfl
  rcases hv with ⟨n, hn, rfl, rfl, rfl⟩ | ⟨hn, rfl, rfl⟩
  · have hf : Instr.findNow (.int .i64) (.int .i64 (n : Int)) (knA 10).toList 0 = some (some (n, knF n)) := by
      have hsplit : ∀ m, ∃ r, knL (n + 1 + m) = knL (n + 1) ++ r := fun m => by
        induction m with
        | zero => exact ⟨[], by simp⟩
        | succ m ih =>
          obtain ⟨r, hr⟩ := ih
          exact ⟨r ++ [{ key := .int .i64 ((n + 1 + m : Nat) : Int), val := knF (n + 1 + m), born := n + 1 + m }], by rw [show knL (n + 1 + (m + 1)) = knL (n + 1 + m) ++ [{ key := .int .i64 ((n + 1 + m : Nat) : Int), val := knF (n + 1 + m), born := n + 1 + m }] from rfl, hr, List.append_assoc]⟩
      obtain ⟨r, hr⟩ := hsplit (9 - n)
      rw [show n + 1 + (9 - n) = 10 by omega] at hr
      rw [show (knA 10).toList = knL 10 from rfl, hr]
      exact knL_at n r
    unfold Instr.lookup
    simp only [Sem.run_bind, run_underlying hu, Result.andThen_ok, hg, hc, Instr.findKey, run_underlying hk, hf, Sem.run_pure, if_true]
  · have hf : Instr.findNow (.int .i64) (.int .i64 k) (knA 10).toList 0 = some none := (knL_find .i64 rfl k 10 0 (fun j hj => by omega)).1
    unfold Instr.lookup
    simp only [Sem.run_bind, run_underlying hu, Result.andThen_ok, hg, hc, Instr.findKey, run_underlying hk, hf, Sem.run_pure, if_true, hz]
set_option maxHeartbeats 1000000 in
theorem kinds_any (w : World) : Calls Try.prog 11 #[] w fun e w' => e = .returned (.map (some w.heap.size)) ∧ w'.heap[w.heap.size]? = some (.map (knA 10) 10) ∧ Below w.heap.size w w' := by
  have hm : (Instr.makeMap 48 none).run Try.prog w = .ok (.map (some w.heap.size)) (w.alloc (.map (knA 0) 0)) := rfl
  have h0 := ins_kn w 0
  have h1 := ins_kn w 1
  have h2 := ins_kn w 2
  have h3 := ins_kn w 3
  have h4 := ins_kn w 4
  have h5 := ins_kn w 5
  have h6 := ins_kn w 6
  have h7 := ins_kn w 7
  have h8 := ins_kn w 8
  have h9 := ins_kn w 9
  simp only [knF, Nat.reduceAdd, Int.cast_ofNat_Int] at h0 h1 h2 h3 h4 h5 h6 h7 h8 h9
  go_enter Try.func11, Try.ntmps11
  go_wp2
  go_ret
  exact ⟨rfl, heap_alloc_new w _, (Below.refl _ _).alloc (Nat.le_refl _) _⟩
end Go.Proofs.Ytohghphegcnfkaa
