
/-
  (*dynamic.Table).oldestFirst: what it ranges over.
-/
import Derived.Test.YtjaedpekbkmokaaDynTab
import Derived.Test.YtjaedpekbkmokaaRange
import Derived.WalkKit
import Derived.OwnWalkIn
import Derived.TacticsInMore
import Derived.LoopNIn
import Derived.LoopIn
namespace Go.Proofs.Ytjaedpekbkmokaa
open Go.RowKit
attribute [local go_sem] Oper.semAt_some

/-- what a round may turn: not the row that is gone through -/
def KeepRow (v : Value) (A B : World) : Prop := A.heap.size ≤ B.heap.size ∧ ∀ g, v.ownBlock = some g → B.heap[g]? = A.heap[g]?
theorem KeepRow.refl (v : Value) (A : World) : KeepRow v A A := ⟨Nat.le_refl _, fun _ _ => rfl⟩
theorem KeepRow.trans {v : Value} {A B C : World} (h : KeepRow v A B) (k : KeepRow v B C) : KeepRow v A C := ⟨Nat.le_trans h.1 k.1, fun g hg => (k.2 g hg).trans (h.2 g hg)⟩
def encFd (f : Fd) : Array Value := #[.agg #[.string f.1, .string f.2]]
def NextFd (fs : List Fd) (pre : List Fd) (f : Fd) (_ : World) : Prop := fs[pre.length]? = some f
def AllFd (fs : List Fd) (xs : List Fd) : Prop := xs = fs
def SomeFd (fs : List Fd) (xs : List Fd) : Prop := ∃ m, m < fs.length ∧ xs = fs.take (m + 1)

set_option maxHeartbeats 1000000 in
theorem fields_iter (n l Bb T base : Nat) (b m z : Int) (v : Value) (fs : List Fd) (J Jx : List Fd → World → Prop) (hJg : Grows J)
    (hY : ∀ pre f W1, J pre W1 → NextFd fs pre f W1 → pre.length < fs.length → YieldAt Fence.wide (n - 1) Try.prog l (encFd f) W1 fun e W' =>
      (e = .returned (.bool true) ∧ J (pre ++ [f]) W' ∧ KeepRow v W1 W') ∨ (e = .returned (.bool false) ∧ Jx (pre ++ [f]) W'))
    (W : World) (hb : W.heap[Bb]? = some (.cells #[.pointer (some ⟨T, 0, none⟩)] 25 (0, 0))) (hT : TabAt W T b m v z) (hr : RowF W base v fs) (h0 : J [] W) :
    CallsIn Fence.wide n Try.prog 30 #[.func (.yield l) #[] #[], .pointer (some ⟨Bb, 0, none⟩)] W fun e W' => (∃ v, e = .returned v) ∧ ((∃ xs, AllFd fs xs ∧ J xs W') ∨ ∃ pre, SomeFd fs pre ∧ Jx pre W') := by
  obtain ⟨a, cap, rfl, hc1, hc2⟩ := hr.toSl.shape
  unfold maxLen at hc2
  refine callsIn_of_wp Try.func30 rfl trivial ?_ rfl
  simp only [Try.ntmps30, List.size_toArray, List.length_cons, List.length_nil, Nat.reduceAdd, Nat.reduceSub, Array.replicate_succ, Array.replicate_zero, List.push_toArray, List.append_toArray, List.nil_append, List.cons_append]
  have cb := blk_cell (j := 0) hb rfl
  have c2 := hT.c2
  gi_wp2
  gi_loopw [10] (fun i wr => ∃ k : Nat, i = .int .i64 k ∧ k ≤ fs.length ∧ J (fs.take k) wr ∧ KeepRow (.slice a fs.length cap) W wr) (fun i _ => fs.length - (intOf i).toNat)
  case atStart => exact ⟨0, rfl, Nat.zero_le _, by simpa using h0, KeepRow.refl _ _⟩
  case round =>
    clear hb hT h0 cb c2
    obtain ⟨k, rfl, hk, hJ, hK⟩ := hrel
    by_cases hlt : k < fs.length
    · obtain ⟨f, hf⟩ : ∃ f, fs[k]? = some f := ⟨fs[k], List.getElem?_eq_getElem hlt⟩
      obtain ⟨bk, off, rfl, hbl, hcell⟩ := (hr.of_block (w' := wr) hK.2).toSl.at_ hlt
      obtain ⟨c0, c1⟩ := hcell f hf
      have hJ2 := hJg _ _ _ hJ ((Below.refl wr.heap.size wr).alloc (Nat.le_refl _) (.cells #[.string f.1, .string f.2] 32))
      have hl : (fs.take k).length = k := by rw [List.length_take]; omega
      have hK2 : KeepRow (.slice (some ⟨bk, off, none⟩) fs.length cap) wr (wr.alloc (.cells #[.string f.1, .string f.2] 32)) := ⟨by simp, fun g hg => Below.heap_alloc _ _ _ (by cases hg; exact hbl)⟩
      obtain ⟨fn, tmps, assign, body, hy, hR⟩ := hY _ f _ hJ2 (show fs[(fs.take k).length]? = some f by rw [hl]; exact hf) (by omega)
      have HF := Lib.hid hf
      have HT := Lib.hid (show fs.take k ++ [f] = fs.take (k + 1) by rw [List.take_add_one, hf]; rfl)
      unfold encFd at hy
      clear hcell hJ hJ2 hl hf
      gi_wp2
      refine ⟨fun h => by simp [Fence.wide] at h, ?_⟩
      refine hR.mono ?_
      rintro e W5 (⟨rfl, hJ5, hk5⟩ | ⟨rfl, hJx5⟩)
      · gi_wp2
        go_roundw
        case rel => exact ⟨k + 1, by go_num, by omega, by rw [← HT.out]; exact hJ5, hK.trans (hK2.trans hk5)⟩
        case measure => simp [intOf]; omega
      · gi_wp2
        refine bodyPost_ret (results_none rfl _ _ _) rfl ?_
        exact ⟨⟨_, rfl⟩, .inr ⟨_, ⟨k, hlt, HT.out⟩, hJx5⟩⟩
    · obtain rfl : k = fs.length := by omega
      gi_wp2
      go_end0
      refine ⟨⟨_, rfl⟩, .inl ⟨_, ?_, hJ⟩⟩
      show _ = _
      rw [List.take_of_length_le (Nat.le_refl _)]

theorem fields_seq (n Bb T base : Nat) (b m z : Int) (v : Value) (fs : List Fd) (w : World) (hb : w.heap[Bb]? = some (.cells #[.pointer (some ⟨T, 0, none⟩)] 25 (0, 0))) (hT : TabAt w T b m v z) (hr : RowF w base v fs) :
    SeqP Try.prog n 30 #[.pointer (some ⟨Bb, 0, none⟩)] encFd (NextFd fs) (KeepRow v) (AllFd fs) (SomeFd fs) fs.length w := fun l J Jx W hW hJg _ hY h0 =>
  fields_iter n l Bb T base b m z v fs J Jx hJg hY W ((hW.block Bb (Array.getElem?_eq_some_iff.1 hb).1).trans hb) (hT.below hW) (hr.below hW) h0
end Go.Proofs.Ytjaedpekbkmokaa
