
/-
  Layer 19's program: a queue as an object; slices.Delete, bytes.Clone; New, Len, Ended.
-/
import Derived.Test.YtiappeagdnkedaaCtlRef2
import Derived.Test.YtiappeagdnkedaaRestKit
import Derived.Test.YtiappeagdnkedaaNil
import Derived.Test.YtiappeagdnkedaaRegion
import Derived.Test.YtiappeagdnkedaaAppAt
namespace Go.Proofs.Ytiappeagdnkedaa
set_option maxRecDepth 20000
open Go.RowKit

theorem Try.infoB19 : (Try.prog.info? 5).map (fun i => (i.zero, i.size, i.bytes)) = some (some (.int .u8 0), 1, 1) := by kernel_rfl
theorem clone19_any (v : Value) (zs : List Int) (w : World) (hv : Sl .u8 w v zs) (hl : zs.length ≤ 1000000000) :
    Calls Try.prog 25 #[v] w fun e w' => ∃ bv, e = .returned bv ∧ Sl .u8 w' bv zs ∧ (∀ g, bv.ownBlock = some g → w.heap.size ≤ g ∧ g < w'.heap.size) ∧ Below w.heap.size w w' := by
  obtain ⟨a, cap, rfl, _⟩ := id hv
  obtain ⟨N, hN⟩ : ∃ N, N = zs.length := ⟨_, rfl⟩
  rw [← hN] at hv ⊢
  cases a with
  | none =>
    obtain ⟨rfl, rfl⟩ := hv.bare
    obtain rfl : zs = [] := List.eq_nil_of_length_eq_zero hN.symm
    clear hv hN hl
    have hq : ∀ W, (binOp .eql 32 (.slice none 0 0) (.slice none 0 0)).run Try.prog W = .ok (.bool true) W := fun W => nil_none W
    go_enter Try.func25, Try.ntmps25
    go_wp2
    go_ret
    exact ⟨_, rfl, Sl.nil _ _, (fun g hg => by cases hg), Below.refl _ _⟩
  | some ad =>
    have hal := (Below.refl w.heap.size w).alloc (Nat.le_refl _) (.cells #[] 5)
    have HS := Lib.hid (hv.below hal)
    have HO := Lib.hid (fresh_own w 5)
    have HB := Lib.hid hal
    clear hal hN
    have hq : ∀ W, (binOp .eql 32 (.slice (some ad) N cap) (.slice none 0 0)).run Try.prog W = .ok (.bool false) W := fun W => nil_some ad N cap W
    go_enter Try.func25, Try.ntmps25
    go_wp2_with (at_builtin; refine app_ints rfl (.tmp 5) (.tmp 6) 32 rfl w.heap.size 5 .u8 1 Try.underlying32 Try.infoB19 _ 0 [] rfl HO.out _ zs rfl HS.out (by simp; omega) (by simp; unfold maxLen; omega) (by simp) ?_; intro v2 w3 hO3 hb3 hg3)
    go_ret
    simp only [List.nil_append, List.length_nil, Nat.zero_add] at hO3
    exact ⟨_, rfl, Sl.owned hO3 hv.fit (by unfold maxLen; omega), fun g hg => hO3.lt g hg, HB.out.trans hb3⟩

theorem zeroFr19 (w : World) : (zeroValue 34).run Try.prog w = .ok (.agg #[.int .i64 0, .int .i64 0, .int .i64 0, .slice none 0 0]) w := by kernel_rfl
theorem zerosFr19 (n : Nat) : ∀ u ∈ (Builtin.zeroCells (Value.agg #[.int .i64 0, .int .i64 0, .int .i64 0, .slice none 0 0]).cells n).toList, u.oneCell' = true := by
  intro u hu
  simp only [Builtin.zeroCells, Array.mem_toList_iff, Array.mem_map] at hu
  obtain ⟨i, _, rfl⟩ := hu
  have h2 : (Value.agg #[.int .i64 0, .int .i64 0, .int .i64 0, .slice none 0 0]).cells.size = 4 := rfl
  rw [h2]
  rcases (by omega : i % 4 = 0 ∨ i % 4 = 1 ∨ i % 4 = 2 ∨ i % 4 = 3) with h | h | h | h <;> rw [h] <;> rfl
theorem flat_cons (p : Fr × Value) (ps : List (Fr × Value)) : flat (p :: ps) = frCells p.1 p.2 ++ flat ps := by simp [flat]
theorem flat_tail (p : Fr × Value) (ps : List (Fr × Value)) : flat ps = (flat (p :: ps)).drop 4 := by rw [flat_cons]; rfl
theorem flat_oneCell {ps : List (Fr × Value)} (h : ∀ p ∈ ps, ∃ b n c, p.2 = .slice b n c) : ∀ u ∈ flat ps, u.oneCell' = true := by
  intro u hu
  simp only [flat, List.mem_flatMap] at hu
  obtain ⟨p, hp, hu⟩ := hu
  obtain ⟨b, n, c', e⟩ := h p hp
  rw [e] at hu
  exact frCells_one p.1 u hu
set_option maxHeartbeats 4000000 in
/-- slices.Delete of the first frame -/
theorem delete19_any (g cap : Nat) (p : Fr × Value) (ps : List (Fr × Value)) (w : World) (h : w.ownsRow 0 34 4 (.slice (some ⟨g, 0, none⟩) (ps.length + 1) cap) (ps.length + 1) (flat (p :: ps))) (hp : ∀ p ∈ ps, ∃ b n c, p.2 = .slice b n c) :
    Calls Try.prog 21 #[.slice (some ⟨g, 0, none⟩) (ps.length + 1 : Nat) cap, .int .i64 0, .int .i64 1] w fun e w' =>
      e = .returned (.slice (some ⟨g, 0, none⟩) ps.length cap) ∧ w'.ownsRow 0 34 4 (.slice (some ⟨g, 0, none⟩) ps.length cap) ps.length (flat ps) ∧ w.grownBy w' (some g) := by
  obtain ⟨i0, hi, hz0, hz1, hz2⟩ := info_parts Try.infoFr19
  obtain ⟨hc1, hc2, h00⟩ : ps.length + 1 ≤ cap ∧ cap ≤ maxLen ∧ w.ownsRow 0 34 4 (.slice (some ⟨g, 0, none⟩) 0 cap) 0 [] := by
    obtain ⟨h1, h2⟩ := id h
    rcases h2 with ⟨h, _⟩ | ⟨g', cap', cur, h, hbg, hg, hnc, hcm, hcs, htake⟩
    · simp at h
    · simp only [Value.slice.injEq, Option.some.injEq, Addr.mk.injEq, and_true, true_and] at h
      obtain ⟨rfl, rfl⟩ := h
      exact ⟨hnc, hcm, rfl, .inr ⟨g, cap, cur, rfl, hbg, hg, by omega, hcm, hcs, rfl⟩⟩
  obtain ⟨M, hM⟩ : ∃ M, ps.length = M := ⟨_, rfl⟩
  obtain ⟨N, hN⟩ : ∃ N, M + 1 = N := ⟨_, rfl⟩
  rw [hM] at h hc1 ⊢
  obtain ⟨news, hnews⟩ : ∃ news, news = flat ps := ⟨_, rfl⟩
  have s1 : Hid (news.length = (N - 1) * 4) := by show _ = _; rw [hnews, flat_length, hM, ← hN]; rfl
  have s2 : Hid (∀ u ∈ news, u.oneCell' = true) := by show ∀ _, _; rw [hnews]; exact flat_oneCell hp
  obtain ⟨A, hA, hsrc⟩ : ∃ A : Addr, (if cap = 1 then some (⟨g, 0, none⟩ : Addr) else some ⟨g, 4, none⟩) = some A ∧ Hid (∀ t u, news[t]? = some u → w.drew.cell? (A.add t) = some u) := by
    by_cases hcn : cap = 1
    · refine ⟨⟨g, 0, none⟩, by simp [hcn], fun t u hu => ?_⟩
      have hl0 : news.length = 0 := by rw [s1.out]; omega
      rw [List.length_eq_zero_iff.1 hl0] at hu
      simp at hu
    · refine ⟨⟨g, 4, none⟩, by simp [hcn], fun t u hu => ?_⟩
      have ht : t < (N - 1) * 4 := by
        have := (List.getElem?_eq_some_iff.1 hu).1
        rwa [s1.out] at this
      rw [hnews, flat_tail p, List.getElem?_drop] at hu
      rw [Go.WideShapes.add_plain]
      have := World.ownsRow.cellAt h (4 + t) (by omega)
      show w.cell? _ = _
      rw [this, hu]
  have hroom : Hid (0 + (N - 1) ≤ cap) := by show _ ≤ _; omega
  have H00 := Lib.hid h00
  have HN := Lib.hid (show N - 1 = M by omega)
  have HNW := Lib.hid hnews
  have hnN : 1 ≤ N := by omega
  have hcN : N ≤ cap := by omega
  unfold maxLen at hc2
  have mixed : Try.prog.follows .mixedOrders = true := by kernel_rfl
  have hne : ¬ cap = N - 1 := by omega
  have hle : N - 1 ≤ N := by omega
  have hnI : (1 : Int) ≤ (N : Int) := by omega
  rw [hN]
  clear h00 hnews hc1 h hN hM
  go_enter Try.func21, Try.ntmps21
  go_wp2_with fail
  go_region_law_o (refine step_app_fits17 rfl (.tmp 22) (.tmp 25) 42 rfl 0 34 i0 4 Try.underlying42 hi hz1 g 0 cap [] (by simp [Act.eval, Act.put]) H00.out A (N - 1) (cap - 1) news (by simp [Act.eval, Act.put]) s1.out hsrc.out s2.out hroom.out ?_; intro w1 hw1 hg1; rw [Nat.zero_add, List.nil_append] at hw1; obtain ⟨w2, hcl, hw2, hg2⟩ := run_clear_rest17 (P := Try.prog) w1 42 34 _ 4 Try.underlying42 zeroFr19 rfl zerosFr19 0 g (N - 1) cap (N - (N - 1)) _ hw1 (by omega) (by omega); have Hw2 := Lib.hid hw2; have Hg := Lib.hid (And.intro hg1 hg2); clear hw2 hg1 hg2 hw1)
  go_wp2
  go_ret
  obtain ⟨hg1, hg2⟩ := Hg.out
  have e := Hw2.out
  rw [HNW.out, HN.out] at e
  refine ⟨by rw [HN.out]; rfl, e, ⟨hg2.os.trans hg1.os, hg2.tape.trans hg1.tape, hg2.output.trans hg1.output, Nat.le_trans hg1.size hg2.size, fun k hk hne => (hg2.block k (Nat.lt_of_lt_of_le hk hg1.size) hne).trans (hg1.block k hk hne)⟩⟩

def CqBlk (W : World) (T : Nat) (room : Int) (v : Value) (ended : Bool) : Prop := W.heap[T]? = some (.cells #[.int .i64 room, v, .bool ended] 49 (0, 0))
theorem CqBlk.lt {W : World} {T : Nat} {room : Int} {v : Value} {ended : Bool} (h : CqBlk W T room v ended) : T < W.heap.size := (Array.getElem?_eq_some_iff.1 h).1
theorem CqBlk.cells {W : World} {T : Nat} {room : Int} {v : Value} {ended : Bool} (h : CqBlk W T room v ended) : W.cell? ⟨T, 0, none⟩ = some (.int .i64 room) ∧ W.cell? ⟨T, 1, none⟩ = some v ∧ W.cell? ⟨T, 2, none⟩ = some (.bool ended) ∧ T < W.heap.size := ⟨blk_cell h rfl, blk_cell h rfl, blk_cell h rfl, h.lt⟩
theorem CqBlk.free {W : World} {T : Nat} {room : Int} {v : Value} {ended : Bool} (h : CqBlk W T room v ended) (j : Nat) : W.frozen? ⟨T, j, none⟩ = false := blk_free h
/-- a payload's block, if there is one of it that matters -/
def PayB (F : Fr) (pv : Value) (g : Nat) : Prop := F.pay ≠ [] ∧ pv.ownBlock = some g
/-- the program's queue in block T, its frames in a row of its own, their payloads in other blocks -/
structure CqO (W : World) (T : Nat) (v : Value) (ps : List (Fr × Value)) (q : Q19) : Prop where
  blk : CqBlk W T q.room v q.ended
  row : W.ownsRow 0 34 4 v ps.length (flat ps)
  pay : ∀ p ∈ ps, Sl .u8 W p.2 p.1.pay
  e : q.l = ps.map (·.1)
  nv : ∀ g, v.ownBlock = some g → g ≠ T
  np : ∀ p ∈ ps, ∀ g, PayB p.1 p.2 g → g ≠ T ∧ v.ownBlock ≠ some g
section
variable {W W' : World} {T : Nat} {v : Value} {ps : List (Fr × Value)} {q : Q19}
theorem CqO.turn {S : Nat → Prop} (h : CqO W T v ps q) (ht : Turn S W W') (h0 : ¬ S T) (h1 : ∀ g, v.ownBlock = some g → ¬ S g) (h2 : ∀ p ∈ ps, ∀ g, PayB p.1 p.2 g → ¬ S g) : CqO W' T v ps q :=
  ⟨ht.obj h.blk h0, owned_turn h.row ht h1, fun p hp => (h.pay p hp).turn0 ht (fun hne g hg => h2 p hp g ⟨hne, hg⟩), h.e, h.nv, h.np⟩
theorem CqO.below (h : CqO W T v ps q) (hb : Below W.heap.size W W') : CqO W' T v ps q := h.turn (Turn.of_below hb (S := fun _ => False)) id (fun _ _ => id) (fun _ _ _ _ => id)
theorem CqO.len (h : CqO W T v ps q) : q.l.length = ps.length := by rw [h.e, List.length_map]
theorem CqO.paylt (h : CqO W T v ps q) {p : Fr × Value} (hp : p ∈ ps) {g : Nat} (hg : PayB p.1 p.2 g) : g < W.heap.size := (h.pay p hp).lt0 hg.1 hg.2
theorem CqO.setE (h : CqO W T v ps q) (b : Bool) : CqO (W.setCell ⟨T, 2, none⟩ (.bool b)) T v ps { q with ended := b } := by
  have ht := turn_set19 (W := W) T 2 (.bool b)
  exact ⟨heap_setCell_same _ T 2 _ _ _ h.blk, owned_turn h.row ht (fun g hg => h.nv g hg), fun p hp => (h.pay p hp).turn0 ht (fun hne g hg => (h.np p hp g ⟨hne, hg⟩).1), h.e, h.nv, h.np⟩
/-- a list stored -/
theorem CqO.setL (h : CqBlk W T q.room v q.ended) {u : Value} {us : List (Fr × Value)} (hr : W.ownsRow 0 34 4 u us.length (flat us)) (hp : ∀ p ∈ us, Sl .u8 W p.2 p.1.pay) (hu : ∀ g, u.ownBlock = some g → g ≠ T) (hn : ∀ p ∈ us, ∀ g, PayB p.1 p.2 g → g ≠ T ∧ u.ownBlock ≠ some g) : CqO (W.setCell ⟨T, 1, none⟩ u) T u us { q with l := us.map (·.1) } := by
  have ht := turn_set19 (W := W) T 1 u
  exact ⟨heap_setCell_same _ T 1 _ _ _ h, owned_turn hr ht (fun g hg => hu g hg), fun p hm => (hp p hm).turn0 ht (fun hne g hg => (hn p hm g ⟨hne, hg⟩).1), rfl, hu, hn⟩
end
/-- the program's queue in block T: B the blocks that it turns, K those of payloads (that are not empty) which it refers to -/
def CqAt (W : World) (T : Nat) (B K : Nat → Prop) (q : Q19) : Prop :=
  (q.ended = false → (q.l.length : Int) ≤ q.room) ∧ ∃ v ps, CqO W T v ps q ∧ (∀ g, B g ↔ g = T ∨ v.ownBlock = some g) ∧ ∀ g, K g ↔ ∃ p ∈ ps, PayB p.1 p.2 g
theorem CqAt.lt {W : World} {T : Nat} {B K : Nat → Prop} {q : Q19} (h : CqAt W T B K q) : ∀ g, B g ∨ K g → g < W.heap.size := by
  obtain ⟨_, v, ps, h, hB, hK⟩ := h
  rintro g (hg | hg)
  · rcases (hB g).1 hg with rfl | hg
    · exact h.blk.lt
    · exact (h.row.lt g hg).2
  · obtain ⟨p, hp, hg⟩ := (hK g).1 hg
    exact h.paylt hp hg
theorem CqAt.turn {W W' : World} {T : Nat} {B K S : Nat → Prop} {q : Q19} (h : CqAt W T B K q) (ht : Turn S W W') (h0 : ∀ g, B g ∨ K g → ¬ S g) : CqAt W' T B K q := by
  obtain ⟨hc, v, ps, h, hB, hK⟩ := h
  exact ⟨hc, v, ps, h.turn ht (h0 T (.inl ((hB T).2 (.inl rfl)))) (fun g hg => h0 g (.inl ((hB g).2 (.inr hg)))) (fun p hp g hg => h0 g (.inr ((hK g).2 ⟨p, hp, hg⟩))), hB, hK⟩
theorem CqAt.below {W W' : World} {T : Nat} {B K : Nat → Prop} {q : Q19} (h : CqAt W T B K q) (hb : Below W.heap.size W W') : CqAt W' T B K q := h.turn (Turn.of_below hb (S := fun _ => False)) (fun _ _ => id)
end Go.Proofs.Ytiappeagdnkedaa
