
/-
  Layer 19's program: come (written by wip/tools/gen19p.py).
-/
import Derived.Test.YtiappeagdnkedaaCtlObj
namespace Go.Proofs.Ytiappeagdnkedaa
set_option maxRecDepth 20000
open Go.RowKit

set_option maxHeartbeats 4000000 in
theorem come19_any (T : Nat) (v : Value) (ps : List (Fr × Value)) (q : Q19) (F : Fr) (pv : Value) (w : World) (h : CqO w T v ps q) (hf : Sl .u8 w pv F.pay) (hl : ps.length ≤ 1000) (hp : F.pay.length ≤ 100000) :
    Calls Try.prog 23 #[.pointer (some ⟨T, 0, none⟩), .agg #[.int .i64 F.kind, .int .i64 F.flags, .int .i64 F.stream, pv]] w fun e w' =>
      e = .returned (.tuple #[]) ∧ ∃ v' pv', CqO w' T v' (ps ++ [(F, pv')]) { q with l := q.l ++ [F] } ∧ Turn (fun k => k = T ∨ v.ownBlock = some k) w w' ∧ (∀ g, v'.ownBlock = some g → v.ownBlock = some g ∨ w.heap.size ≤ g) ∧ ∀ g, pv'.ownBlock = some g → w.heap.size ≤ g := by
  obtain ⟨room, ql, ended⟩ := q
  obtain ⟨N, hN⟩ : ∃ N, ps.length = N := ⟨_, rfl⟩
  have HRow := Lib.hid h.row
  obtain ⟨al, cl, elv, _⟩ := owned_shape h.row
  rw [hN] at elv hl
  subst elv
  have HN := Lib.hid hN
  have HLn := Lib.hid (And.intro hl hp)
  obtain ⟨ap, cp, rfl, _⟩ := id hf
  obtain ⟨X, hXe⟩ : ∃ X, w.heap.size = X := ⟨_, rfl⟩
  obtain ⟨W1, hW1⟩ : ∃ W1, w.alloc (.cells #[.int .i64 F.kind, .int .i64 F.flags, .int .i64 F.stream, .slice ap F.pay.length cp] 34) = W1 := ⟨_, rfl⟩
  have HB1 := Lib.hid (show Below w.heap.size w W1 by rw [← hW1]; exact (Below.refl _ _).alloc (Nat.le_refl _) _)
  have hbx : Bx W1 X 34 F (.slice ap F.pay.length cp) := by rw [← hW1, ← hXe]; exact Bx.new _ _ _ _
  have HBx := Lib.hid hbx
  have HX1 := Lib.hid (show w.heap.size = X ∧ W1.heap.size = X + 1 by rw [← hW1, ← hXe]; simp)
  have HP := Lib.hid (hf.below HB1.out)
  have HQ := Lib.hid h
  have g3 := hbx.c3
  have hXl := hbx.lt
  clear h hf hbx hl hp hN
  go_enter Try.func23, Try.ntmps23
  go_wp2_with fail
  refine (clone19_any _ F.pay W1 HP.out (by have := HLn.out.2; omega)).mono ?_
  rintro e w2 ⟨bv, rfl, hbv, hnew, hb2⟩
  obtain ⟨ab, cb, rfl, _⟩ := id hbv
  have hbx2 := HBx.out.below hb2
  have g3 := hbx2.c3
  have hXl := hbx2.lt
  have gf : w2.frozen? ⟨X, 3, none⟩ = false := blk_free hbx2
  obtain ⟨W3, hW3⟩ : ∃ W3, w2.setCell ⟨X, 3, none⟩ (.slice ab F.pay.length cb) = W3 := ⟨_, rfl⟩
  have HT3 := Lib.hid (show Turn (fun k => k = X) w2 W3 by rw [← hW3]; exact turn_set19 _ _ _)
  have HX := Lib.hid (show Bx W3 X 34 F (.slice ab F.pay.length cb) by rw [← hW3]; exact heap_setCell_same _ X 3 _ _ _ hbx2)
  have HNew := Lib.hid (show ∀ g, (Value.slice ab F.pay.length cb).ownBlock = some g → X + 1 ≤ g by rw [← HX1.out.2]; exact fun g hg => (hnew g hg).1)
  have HBw := Lib.hid (show Below w.heap.size w W3 from HB1.out.trans (((hb2.mono HB1.out.size)).trans ⟨HT3.out.1, HT3.out.2.1, HT3.out.2.2.1, HT3.out.size, fun k hk => HT3.out.2.2.2.2 k (Nat.lt_of_lt_of_le hk (Nat.le_trans HB1.out.size hb2.size)) (fun e => by have e' : k = X := e; have := HX1.out.1; omega)⟩))
  have HPb := Lib.hid (show Sl .u8 W3 (.slice ab F.pay.length cb) F.pay from hbv.turn HT3.out (fun g hg e => by have e' : g = X := e; have := HNew.out g hg; omega))
  have HW := Lib.hid (HQ.out.below HBw.out)
  clear hW1 hbv hnew hb2 hbx2 hXe
  obtain ⟨D, hD⟩ : ∃ D, (ps ++ [(F, Value.slice ab F.pay.length cb)]).length = D := ⟨_, rfl⟩
  have HD := Lib.hid hD
  clear hD
  go_wp2_with (rw [hW3])
  clear g3 gf hXl hW3
  refine wp_region_late 7 [8, 9, 10, 11, 12, 13, 14] [[], [], [(1, 9)], [(2, 10)], [(3, 11)], [], [(5, 13)]] [0]
    (fun i v w' => match i with
      | 0 => v = .pointer (some ⟨T, 0, none⟩)
      | 1 => v = .pointer (some ⟨T, 0, none⟩)
      | 2 => v = .pointer (some ⟨T, 0, none⟩)
      | 3 => v = .pointer (some ⟨T, 1, none⟩)
      | 4 => v = .slice al N cl
      | 5 => v = .agg #[.int .i64 F.kind, .int .i64 F.flags, .int .i64 F.stream, .slice ab F.pay.length cb]
      | 6 => ∃ C, v = .slice (some ⟨C, 0, none⟩) 1 1 ∧ w'.ownsRow W3.heap.size 34 4 (.slice (some ⟨C, 0, none⟩) 1 1) 1 (flat [(F, .slice ab F.pay.length cb)])
      | _ => True) (by kernel_rfl) (by kernel_rfl) ?tStab ?tOps ?tLate ?tRest
  case tStab =>
    intro i v w5 w6 h hb
    match i, h with
    | 0, h | 1, h | 2, h | 3, h | 4, h | 5, h => exact h
    | 6, h => exact (by obtain ⟨C, e, h1⟩ := h; exact ⟨C, e, owned_below h1 hb⟩)
    | i + 7, _ => trivial
  case tOps =>
    simp only [List.take_succ_cons, List.take_zero, opsOk]
    refine ⟨?_, ?_, ?_, ?_, ?_, ?_, ?_, trivial⟩
    · intro ρ w3 hc hf ho hB hj
      have x0 : ρ (.tmp 0) = .pointer (some ⟨T, 0, none⟩) := ho 0 (by decide)
      simp [gives, go_sem, x0, Below.refl]
    · intro ρ w3 hc hf ho hB hj
      have x0 : ρ (.tmp 0) = .pointer (some ⟨T, 0, none⟩) := ho 0 (by decide)
      simp [gives, go_sem, x0, Below.refl]
    · intro ρ w3 hc hf ho hB hj
      have x0 : ρ (.tmp 9) = .pointer (some ⟨T, 0, none⟩) := hj (1, 9) (by simp)
      simp [gives, go_sem, x0, Below.refl]
    · intro ρ w3 hc hf ho hB hj
      have x0 : ρ (.tmp 10) = .pointer (some ⟨T, 0, none⟩) := hj (2, 10) (by simp)
      simp [gives, go_sem, x0, Below.refl]
    · intro ρ w3 hc hf ho hB hj
      have x0 : ρ (.tmp 11) = .pointer (some ⟨T, 1, none⟩) := hj (3, 11) (by simp)
      obtain ⟨f0, f1, f2, f3⟩ := (HW.out.below hB).blk.cells
      simp [gives, go_sem, x0, f1, Below.refl]
    · intro ρ w3 hc hf ho hB hj
      have x0 : ρ (.tmp 3) = .pointer (some ⟨X, 0, none⟩) := ho 3 (by decide)
      have g0 := (HX.out.below hB).c0
      have g1 := (HX.out.below hB).c1
      have g2 := (HX.out.below hB).c2
      have g3 := (HX.out.below hB).c3
      simp [gives, go_sem, x0, g0, g1, g2, g3, Below.refl]
    · intro ρ w3 hc hf ho hB hj
      have x0 : ρ (.tmp 13) = .agg #[.int .i64 F.kind, .int .i64 F.flags, .int .i64 F.stream, .slice ab F.pay.length cb] := hj (5, 13) (by simp)
      simp [gives, go_sem, x0]
      exact ⟨one_row19 F _ hB.size, (Below.refl _ _).alloc (Nat.le_refl _) _⟩
  case tLate =>
    intro i hi _ o ho
    obtain rfl := List.mem_singleton.1 hi
    obtain rfl := Option.some.inj ho
    intro ρ w3 hc ho _ hj
    have x0 : ρ (.tmp 0) = .pointer (some ⟨T, 0, none⟩) := ho 0 (by decide)
    exact ⟨_, fun w' => by simp [go_sem, x0], rfl⟩
  case tRest =>
    intro Xs w5 hBw hX
    have x0 : Xs 0 = .pointer (some ⟨T, 0, none⟩) := hX 0 (by decide)
    have x1 : Xs 1 = .pointer (some ⟨T, 0, none⟩) := hX 1 (by decide)
    have x2 : Xs 2 = .pointer (some ⟨T, 0, none⟩) := hX 2 (by decide)
    have x3 : Xs 3 = .pointer (some ⟨T, 1, none⟩) := hX 3 (by decide)
    have x4 : Xs 4 = .slice al N cl := hX 4 (by decide)
    have x5 : Xs 5 = .agg #[.int .i64 F.kind, .int .i64 F.flags, .int .i64 F.stream, .slice ab F.pay.length cb] := hX 5 (by decide)
    have x6 := hX 6 (by decide)
    simp only [putAll, List.getD_cons_zero, List.getD_cons_succ, Act.put, List.setIfInBounds_toArray, List.set_cons_zero, List.set_cons_succ, List.drop_succ_cons, List.drop_zero]
    rw [x0, x1, x2, x3, x4, x5]
    obtain ⟨C, e6, ho6⟩ := x6
    rw [e6]
    have HO := Lib.hid ho6
    have HW3 := Lib.hid (HW.out.below hBw)
    have HZ := Lib.hid hBw.size
    have HB5 := Lib.hid hBw
    clear x0 x1 x2 x3 x4 x5 e6 ho6 hBw hX
    go_wp2_with (at_builtin; refine app_frames_at rfl (.tmp 12) (.tmp 14) 42 rfl 0 W3.heap.size 34 Try.underlying42 Try.infoFr19 _ ps rfl HW3.out.row _ [(F, .slice ab F.pay.length cb)] rfl HO.out (fun p hp => by rw [List.mem_singleton] at hp; subst hp; exact ⟨_, _, _, rfl⟩) (by have := HLn.out; have := HN.out; simp; omega) (Nat.zero_le _) ?_; intro v9 w9 own9 hb9 hg9 hat9; have HO9 := Lib.hid (And.intro own9 (And.intro hg9 hat9)); obtain ⟨a9, k9, e9, _⟩ := owned_shape own9; rw [HD.out] at e9; subst e9; have HB9 := Lib.hid (show w9.heap[T]? = w5.heap[T]? from hg9.block T HW3.out.blk.lt (fun e => HW3.out.nv T e.symm rfl)); have j1 := blk_free (j := 1) (HB9.out.trans HW3.out.blk); have j2 := blk_cell (j := 1) (HB9.out.trans HW3.out.blk) rfl; have j3 := (Array.getElem?_eq_some_iff.1 (HB9.out.trans HW3.out.blk)).1; clear own9 hb9 hg9 hat9)
    refine Calm.intro ?_
    go_wp2_with fail
    refine bodyPost_end (results_none rfl _ _ _) rfl ?_
    obtain ⟨ho, hg9, hat'⟩ := HO9.out
    have hat : (Value.slice a9 D k9).ownBlock = (Value.slice al N cl).ownBlock ∨ (Value.slice a9 D k9).ownBlock = some w5.heap.size := hat'
    have ht9 : Turn (fun k => (Value.slice al N cl).ownBlock = some k) w5 w9 := Turn.of_row hg9
    have hb5 : Below w.heap.size w w5 := HBw.out.trans (HB5.out.mono HBw.out.size)
    have hlow : ∀ g, (Value.slice al N cl).ownBlock = some g → g < w.heap.size := fun g hg => (HRow.out.lt g hg).2
    have hX := HX1.out.1
    have hs3 := HBw.out.size
    have hs5 := HB5.out.size
    have h9 : ∀ g, (Value.slice a9 D k9).ownBlock = some g → (Value.slice al N cl).ownBlock = some g ∨ w.heap.size ≤ g := fun g hg => by
      rcases hat with e | e
      · rw [← e]; exact .inl hg
      · rw [e] at hg; cases hg; exact .inr (by omega)
    have hnew9 : ∀ g, (Value.slice a9 D k9).ownBlock = some g → (Value.slice al N cl).ownBlock = some g ∨ w5.heap.size ≤ g := fun g hg => by
      rcases hat with e | e
      · rw [← e]; exact .inl hg
      · rw [e] at hg; cases hg; exact .inr (Nat.le_refl _)
    have hpb : ∀ g, (Value.slice ab F.pay.length cb).ownBlock = some g → w.heap.size < g := fun g hg => by have := HNew.out g hg; omega
    have hTl : T < w.heap.size := HQ.out.blk.lt
    have hpay : ∀ p ∈ ps ++ [(F, Value.slice ab F.pay.length cb)], Sl .u8 w9 p.2 p.1.pay := fun p hp => by
      rcases List.mem_append.1 hp with hp | hp
      · exact (HW3.out.pay p hp).turn0 ht9 (fun hne g hg e => (HW3.out.np p hp g ⟨hne, hg⟩).2 e)
      · rw [List.mem_singleton] at hp
        subst hp
        exact (HPb.out.below HB5.out).turn ht9 (fun g hg e => by have h1 := hpb g hg; have h2 := hlow g e; omega)
    have hnv : ∀ g, (Value.slice a9 D k9).ownBlock = some g → g ≠ T := fun g hg e => by
      rcases h9 g hg with h1 | h1
      · exact HQ.out.nv g h1 e
      · omega
    have hnp : ∀ p ∈ ps ++ [(F, Value.slice ab F.pay.length cb)], ∀ g, PayB p.1 p.2 g → g ≠ T ∧ (Value.slice a9 D k9).ownBlock ≠ some g := fun p hp g hg => by
      rcases List.mem_append.1 hp with hp | hp
      · have h1 := HQ.out.np p hp g hg
        have h2 := HQ.out.paylt hp hg
        refine ⟨h1.1, fun e => ?_⟩
        rcases h9 g e with h3 | h3
        · exact h1.2 h3
        · omega
      · rw [List.mem_singleton] at hp
        subst hp
        have h1 := hpb g hg.2
        have h2 := (HPb.out.below HB5.out).lt0 hg.1 hg.2
        refine ⟨by omega, fun e => ?_⟩
        rcases hnew9 g e with h3 | h3
        · have := hlow g h3; omega
        · omega
    have hq := CqO.setL (q := ⟨room, ql, ended⟩) (v := .slice al N cl) (HB9.out.trans HW3.out.blk) ho hpay hnv hnp
    refine ⟨rfl, .slice a9 D k9, .slice ab F.pay.length cb, ?_, ?_, h9, fun g hg => by have := hpb g hg; omega⟩
    · have e1 : (ps ++ [(F, Value.slice ab F.pay.length cb)]).map (·.1) = ql ++ [F] := by
        rw [List.map_append, ← show ql = ps.map (·.1) from HQ.out.e]; rfl
      rw [e1] at hq
      exact hq
    · exact ((Turn.of_below hb5).trans' ht9 (fun k _ hk => .inr hk)).trans' (turn_set19 _ _ _) (fun k _ hk => .inl hk)
end Go.Proofs.Ytiappeagdnkedaa
