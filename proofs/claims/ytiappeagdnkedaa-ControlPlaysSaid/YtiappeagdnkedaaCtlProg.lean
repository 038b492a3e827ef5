
/-
  Layer 19's program: the queue's calls, as contracts.
-/
import Derived.Test.YtiappeagdnkedaaCtlCome
import Derived.Test.YtiappeagdnkedaaCtlIter
import Derived.BigQuiet
import Derived.Deep.QuietTactic
namespace Go.Proofs.Ytiappeagdnkedaa
set_option maxRecDepth 20000
open Go.RowKit

theorem pNew19_yes (room : Int) (w : World) (h : 1 ≤ room ∧ room ≤ 64) : Calls Try.prog 7 #[.int .i64 room] w fun e w' => ∃ T B, e = .returned (.tuple #[.pointer (some ⟨T, 0, none⟩), .int .i64 0]) ∧ CqAt w' T B (fun _ => False) ⟨room, [], false⟩ ∧ (∀ g, B g → w.heap.size ≤ g) ∧ Below w.heap.size w w' := by
  obtain ⟨h1, h2⟩ := h
  go_enter Try.func7, Try.ntmps7
  go_wp2_with fail
  go_ret2
  refine ⟨w.heap.size, fun g => g = w.heap.size, rfl, ⟨(fun _ => by show (0 : Int) ≤ room; omega), .slice none 0 0, [], ⟨heap_alloc_new w _, World.ownsRow_nil _ _ _ _, (fun p hp => by cases hp), rfl, (fun g hg => by cases hg), (fun p hp => by cases hp)⟩, (fun g => ⟨.inl, fun h => h.elim id (fun h => by cases h)⟩), (fun g => by simp)⟩, (fun g hg => by rw [hg]; exact Nat.le_refl _), (Below.refl _ _).alloc (Nat.le_refl _) _⟩
theorem pNew19_no (room : Int) (w : World) (_hw : (Lit.int .i64 room).wf = true) (h : ¬ (1 ≤ room ∧ room ≤ 64)) : Calls Try.prog 7 #[.int .i64 room] w fun e w' => e = .returned (.tuple #[.pointer none, .int .i64 1]) ∧ Below w.heap.size w w' := by
  by_cases h1 : room < 1
  · go_enter Try.func7, Try.ntmps7
    go_wp2_with fail
    go_ret2
    exact ⟨rfl, Below.refl _ _⟩
  · have h2 : 64 < room := by omega
    clear h
    go_enter Try.func7, Try.ntmps7
    go_wp2_with fail
    go_ret2
    exact ⟨rfl, Below.refl _ _⟩
theorem len19_any (T : Nat) (v : Value) (ps : List (Fr × Value)) (q : Q19) (w : World) (h : CqO w T v ps q) : Calls Try.prog 16 #[.pointer (some ⟨T, 0, none⟩)] w fun e w' => e = .returned (.int .i64 (ps.length : Nat)) ∧ w' = w := by
  obtain ⟨al, cl, rfl, _⟩ := owned_shape h.row
  obtain ⟨f0, f1, f2, f3⟩ := h.blk.cells
  clear h
  generalize ps.length = N at f1 ⊢
  go_enter Try.func16, Try.ntmps16
  go_wp2_with fail
  go_ret
  exact ⟨rfl, rfl⟩
theorem pLen19 (T : Nat) (B K : Nat → Prop) (q : Q19) (w : World) (h : CqAt w T B K q) (_hl : q.l.length ≤ 1000) : Calls Try.prog 16 #[.pointer (some ⟨T, 0, none⟩)] w fun e w' => e = .returned (.int .i64 (q.l.length : Nat)) ∧ Below w.heap.size w w' := by
  obtain ⟨_, v, ps, h, _, _⟩ := h
  refine (len19_any T v ps q w h).mono ?_
  rintro e w' ⟨rfl, rfl⟩
  exact ⟨by rw [h.len], Below.refl _ _⟩
theorem pBytes19 (T : Nat) (B K : Nat → Prop) (q : Q19) (w : World) (h : CqAt w T B K q) (hl : q.l.length ≤ 1000) (hp : ∀ f ∈ q.l, f.pay.length ≤ 100000) : Calls Try.prog 17 #[.pointer (some ⟨T, 0, none⟩)] w fun e w' => e = .returned (.int .i64 (sumPay q.l : Nat)) ∧ Below w.heap.size w w' := by
  obtain ⟨_, v, ps, h, _, _⟩ := h
  exact bytes19_any T v ps q w h (by rw [← h.len]; exact hl) (fun p hm => hp p.1 (by rw [h.e]; exact List.mem_map_of_mem hm))
theorem pEnded19 (T : Nat) (B K : Nat → Prop) (q : Q19) (w : World) (h : CqAt w T B K q) : Calls Try.prog 19 #[.pointer (some ⟨T, 0, none⟩)] w fun e w' => e = .returned (.bool q.ended) ∧ Below w.heap.size w w' := by
  obtain ⟨_, v, ps, h, _, _⟩ := h
  obtain ⟨f0, f1, f2, f3⟩ := h.blk.cells
  obtain ⟨room, l, ended⟩ := q
  dsimp only at f2 ⊢
  clear h
  go_enter Try.func19, Try.ntmps19
  go_wp2_with fail
  go_ret
  exact ⟨rfl, Below.refl _ _⟩
set_option maxHeartbeats 4000000 in
theorem pPush19 (T : Nat) (B K : Nat → Prop) (q : Q19) (F : Fr) (pv : Value) (w : World) (h : CqAt w T B K q) (hf : Sl .u8 w pv F.pay) (_hB : ∀ g, PayB F pv g → ¬ B g) (hl : q.l.length ≤ 1000) (hp : F.pay.length ≤ 100000) :
    Calls Try.prog 14 #[.pointer (some ⟨T, 0, none⟩), .agg #[.int .i64 F.kind, .int .i64 F.flags, .int .i64 F.stream, pv]] w fun e w' =>
      ∃ B' K', e = .returned (.int .i64 (pushQE q)) ∧ CqAt w' T B' K' (pushQ q F) ∧ Turn B w w' ∧ (∀ g, B' g → B g ∨ w.heap.size ≤ g) ∧ ∀ g, K' g → K g ∨ PayB F pv g ∨ w.heap.size ≤ g := by
  obtain ⟨hc, v, ps, h, hB, hK⟩ := h
  have hlen := h.len
  obtain ⟨N, hN⟩ : ∃ N, ps.length = N := ⟨_, rfl⟩
  obtain ⟨al, cl, rfl, _⟩ := owned_shape h.row
  obtain ⟨room, ql, ended⟩ := q
  dsimp only at hlen hc hl
  obtain ⟨ap, cp, rfl, _⟩ := id hf
  obtain ⟨X, hXe⟩ : ∃ X, w.heap.size = X := ⟨_, rfl⟩
  obtain ⟨W1, hW1⟩ : ∃ W1, w.alloc (.cells #[.int .i64 F.kind, .int .i64 F.flags, .int .i64 F.stream, .slice ap F.pay.length cp] 34) = W1 := ⟨_, rfl⟩
  have HB1 := Lib.hid (show Below w.heap.size w W1 by rw [← hW1]; exact (Below.refl _ _).alloc (Nat.le_refl _) _)
  have hbx : Bx W1 X 34 F (.slice ap F.pay.length cp) := by rw [← hW1, ← hXe]; exact Bx.new _ _ _ _
  have HBx := Lib.hid hbx
  have HR := Lib.hid (h.below HB1.out)
  have HP := Lib.hid (And.intro (hf.below HB1.out) (And.intro hl hp))
  have HBK := Lib.hid (And.intro hB hK)
  have HC := Lib.hid hc
  rw [hN] at HR hlen HBK
  have HN := Lib.hid (And.intro hN hlen)
  clear h hf hB hK hl hp hc
  obtain ⟨f0, f1, f2, f3⟩ := HR.out.blk.cells
  have same : ∀ (m : Nat), CqAt (W1.drewN m) T B K ⟨room, ql, ended⟩ ∧ Turn B w (W1.drewN m) := fun m =>
    ⟨⟨HC.out, .slice al N cl, ps, HR.out.below (below_drewN (Below.refl _ _) m), HBK.out⟩, Turn.of_below (below_drewN HB1.out m)⟩
  have HS := Lib.hid same
  clear same
  dsimp only at f0 f2
  cases ended
  rotate_left
  · clear hN hlen hbx
    go_enter Try.func14, Try.ntmps14
    go_wp2_with fail
    go_ret
    obtain ⟨s1, s2⟩ := HS.out 0
    exact ⟨B, K, rfl, s1, s2, fun g hg => .inl hg, fun g hg => .inl hg⟩
  · have hle : (N : Int) ≤ room := by have := HC.out rfl; rw [hlen] at this; exact this
    by_cases hm : room = (N : Int)
    · have d0 : ((N : Int) == room) = true := by rw [beq_iff_eq]; exact hm.symm
      have HE := Lib.hid (show pushQE ⟨room, ql, false⟩ = 4 ∧ pushQ ⟨room, ql, false⟩ F = ⟨room, ql, false⟩ from pushQ_full F (by rw [hlen]; omega))
      clear hm hlen hN hle hbx
      go_enter Try.func14, Try.ntmps14
      go_wp2_with fail
      go_quiet (fail)
      go_wp2_with fail
      go_ret
      obtain ⟨s1, s2⟩ := HS.out nq
      exact ⟨B, K, by rw [HE.out.1]; rfl, by rw [HE.out.2]; exact s1, s2, fun g hg => .inl hg, fun g hg => .inl hg⟩
    · have d0 : ((N : Int) == room) = false := by rw [beq_eq_false_iff_ne]; exact fun e => hm e.symm
      have HE := Lib.hid (show pushQE ⟨room, ql, false⟩ = 0 ∧ pushQ ⟨room, ql, false⟩ F = ⟨room, ql ++ [F], false⟩ from pushQ_ok F (by rw [hlen]; omega))
      have HLe := Lib.hid (show ((ql ++ [F]).length : Int) ≤ room by rw [List.length_append, hlen]; simp; omega)
      clear hm hlen hN hle hbx
      go_enter Try.func14, Try.ntmps14
      go_wp2_with fail
      go_quiet (fail)
      have HW := Lib.hid (HR.out.below (below_drewN (Below.refl _ _) nq))
      have HBw := Lib.hid (below_drewN HB1.out nq)
      have HX := Lib.hid (HBx.out.below (below_drewN (Below.refl _ _) nq))
      have HPy := Lib.hid (HP.out.1.below (below_drewN (Below.refl _ _) nq))
      clear hW1
      generalize W1.drewN nq = W2 at HW HBw HX HPy ⊢
      have g0 := HX.out.c0
      have g1 := HX.out.c1
      have g2 := HX.out.c2
      have g3 := HX.out.c3
      have g4 := HX.out.lt
      clear f0 f1 f2 f3
      go_wp2_with fail
      refine (come19_any T _ ps ⟨room, ql, false⟩ F (.slice ap F.pay.length cp) W2 HW.out HPy.out (by rw [HN.out.1, ← HN.out.2]; exact HP.out.2.1) HP.out.2.2).mono ?_
      rintro e w5 ⟨rfl, v', pv', hq, ht, hv, hpv⟩
      have HF := Lib.hid (And.intro hq (And.intro ht (And.intro hv hpv)))
      clear hq ht hv hpv
      go_wp2_with fail
      go_ret
      obtain ⟨hq, ht, hv, hpv⟩ := HF.out
      have hs := HBw.out.size
      refine ⟨fun g => g = T ∨ v'.ownBlock = some g, fun g => ∃ p ∈ ps ++ [(F, pv')], PayB p.1 p.2 g, by rw [HE.out.1]; rfl, ?_, ?_, ?_, ?_⟩
      · rw [HE.out.2]
        exact ⟨fun _ => HLe.out, v', _, hq, fun g => Iff.rfl, fun g => Iff.rfl⟩
      · exact (Turn.of_below HBw.out).trans' ht (fun k _ hk => (HBK.out.1 k).2 hk)
      · rintro g (hg | hg)
        · exact .inl ((HBK.out.1 g).2 (.inl hg))
        · rcases hv g hg with h1 | h1
          · exact .inl ((HBK.out.1 g).2 (.inr h1))
          · exact .inr (by omega)
      · rintro g ⟨p, hp, hg⟩
        rcases List.mem_append.1 hp with hp | hp
        · exact .inl ((HBK.out.2 g).2 ⟨p, hp, hg⟩)
        · rw [List.mem_singleton] at hp
          subst hp
          exact .inr (.inr (by have := hpv g hg.2; omega))
set_option maxHeartbeats 4000000 in
theorem pLast19 (T : Nat) (B K : Nat → Prop) (q : Q19) (F : Fr) (pv : Value) (w : World) (h : CqAt w T B K q) (hf : Sl .u8 w pv F.pay) (_hB : ∀ g, PayB F pv g → ¬ B g) (hl : q.l.length ≤ 1000) (hp : F.pay.length ≤ 100000) :
    Calls Try.prog 12 #[.pointer (some ⟨T, 0, none⟩), .agg #[.int .i64 F.kind, .int .i64 F.flags, .int .i64 F.stream, pv]] w fun e w' =>
      ∃ B' K', e = .returned (.int .i64 (lastQE q)) ∧ CqAt w' T B' K' (lastQ q F) ∧ Turn B w w' ∧ (∀ g, B' g → B g ∨ w.heap.size ≤ g) ∧ ∀ g, K' g → K g ∨ PayB F pv g ∨ w.heap.size ≤ g := by
  obtain ⟨hc, v, ps, h, hB, hK⟩ := h
  have hlen := h.len
  obtain ⟨N, hN⟩ : ∃ N, ps.length = N := ⟨_, rfl⟩
  obtain ⟨al, cl, rfl, _⟩ := owned_shape h.row
  obtain ⟨room, ql, ended⟩ := q
  dsimp only at hlen hc hl
  obtain ⟨ap, cp, rfl, _⟩ := id hf
  obtain ⟨X, hXe⟩ : ∃ X, w.heap.size = X := ⟨_, rfl⟩
  obtain ⟨W1, hW1⟩ : ∃ W1, w.alloc (.cells #[.int .i64 F.kind, .int .i64 F.flags, .int .i64 F.stream, .slice ap F.pay.length cp] 34) = W1 := ⟨_, rfl⟩
  have HB1 := Lib.hid (show Below w.heap.size w W1 by rw [← hW1]; exact (Below.refl _ _).alloc (Nat.le_refl _) _)
  have hbx : Bx W1 X 34 F (.slice ap F.pay.length cp) := by rw [← hW1, ← hXe]; exact Bx.new _ _ _ _
  have HBx := Lib.hid hbx
  have HR := Lib.hid (h.below HB1.out)
  have HP := Lib.hid (And.intro (hf.below HB1.out) (And.intro hl hp))
  have HBK := Lib.hid (And.intro hB hK)
  have HC := Lib.hid hc
  rw [hN] at HR hlen HBK
  have HN := Lib.hid (And.intro hN hlen)
  clear h hf hB hK hl hp hc
  obtain ⟨f0, f1, f2, f3⟩ := HR.out.blk.cells
  dsimp only at f0 f2
  have g0 := HBx.out.c0
  have g1 := HBx.out.c1
  have g2 := HBx.out.c2
  have g3 := HBx.out.c3
  have g4 := HBx.out.lt
  cases ended
  rotate_left
  · clear hN hlen hbx
    go_enter Try.func12, Try.ntmps12
    go_wp2_with fail
    go_ret
    exact ⟨B, K, rfl, ⟨HC.out, .slice al N cl, ps, HR.out, HBK.out⟩, Turn.of_below HB1.out, fun g hg => .inl hg, fun g hg => .inl hg⟩
  · clear hN hlen hbx
    go_enter Try.func12, Try.ntmps12
    go_wp2_with fail
    clear f0 f1 f2 f3 g0 g1 g2 g3 g4 hW1
    refine (come19_any T _ ps ⟨room, ql, false⟩ F (.slice ap F.pay.length cp) W1 HR.out HP.out.1 (by rw [HN.out.1, ← HN.out.2]; exact HP.out.2.1) HP.out.2.2).mono ?_
    rintro e w5 ⟨rfl, v', pv', hq, ht, hv, hpv⟩
    have HF := Lib.hid (And.intro hq (And.intro ht (And.intro hv hpv)))
    obtain ⟨f0, f1, f2, f3⟩ := hq.blk.cells
    have ff := hq.blk.free 2
    dsimp only at f0 f2
    clear hq ht hv hpv
    go_wp2_with fail
    go_ret
    obtain ⟨hq, ht, hv, hpv⟩ := HF.out
    have hs := HB1.out.size
    have hq2 := hq.setE true
    refine ⟨fun g => g = T ∨ v'.ownBlock = some g, fun g => ∃ p ∈ ps ++ [(F, pv')], PayB p.1 p.2 g, rfl, ?_, ?_, ?_, ?_⟩
    · exact ⟨(fun e => by cases e), v', _, hq2, fun g => Iff.rfl, fun g => Iff.rfl⟩
    · exact ((Turn.of_below HB1.out).trans' ht (fun k _ hk => (HBK.out.1 k).2 hk)).trans' (turn_set19 _ _ _) (fun k _ hk => (HBK.out.1 k).2 (.inl hk))
    · rintro g (hg | hg)
      · exact .inl ((HBK.out.1 g).2 (.inl hg))
      · rcases hv g hg with h1 | h1
        · exact .inl ((HBK.out.1 g).2 (.inr h1))
        · exact .inr (by omega)
    · rintro g ⟨p, hp, hg⟩
      rcases List.mem_append.1 hp with hp | hp
      · exact .inl ((HBK.out.2 g).2 ⟨p, hp, hg⟩)
      · rw [List.mem_singleton] at hp
        subst hp
        exact .inr (.inr (by have := hpv g hg.2; omega))
set_option maxHeartbeats 4000000 in
theorem pPop19 (T : Nat) (B K : Nat → Prop) (q : Q19) (w : World) (h : CqAt w T B K q) (_hl : q.l.length ≤ 1000) :
    Calls Try.prog 9 #[.pointer (some ⟨T, 0, none⟩)] w fun e w' =>
      ∃ B' K' pv, e = .returned (.tuple #[.agg #[.int .i64 (popF q).kind, .int .i64 (popF q).flags, .int .i64 (popF q).stream, pv], .bool (popB q)]) ∧ CqAt w' T B' K' (popQ q) ∧ Turn B w w' ∧ Sl .u8 w' pv (popF q).pay ∧
        (∀ g, PayB (popF q) pv g → (K g ∨ w.heap.size ≤ g) ∧ ¬ B' g) ∧ (∀ g, B' g → B g ∨ w.heap.size ≤ g) ∧ ∀ g, K' g → K g ∨ w.heap.size ≤ g := by
  obtain ⟨hc, v, ps, h, hB, hK⟩ := h
  obtain ⟨room, ql, ended⟩ := q
  have hql : ql = ps.map (·.1) := h.e
  subst hql
  obtain ⟨g, hg⟩ : ∃ g, w.heap.size = g := ⟨_, rfl⟩
  obtain ⟨W1, hW1⟩ : ∃ W1, w.alloc (.cells #[.int .i64 0, .int .i64 0, .int .i64 0, .slice none 0 0] 34) = W1 := ⟨_, rfl⟩
  have HB1 := Lib.hid (show Below w.heap.size w W1 ∧ W1.heap[g]? = some (.cells #[.int .i64 0, .int .i64 0, .int .i64 0, .slice none 0 0] 34 (0, 0)) ∧ T < g ∧ w.heap.size = g ∧ W1.heap.size = g + 1 from by
    rw [← hW1, ← hg]; exact ⟨(Below.refl _ _).alloc (Nat.le_refl _) _, heap_alloc_new _ _, h.blk.lt, rfl, by simp⟩)
  have HR := Lib.hid (h.below HB1.out.1)
  have HRow := Lib.hid (show ∀ k, v.ownBlock = some k → k < g from fun k hk => by rw [← hg]; exact (h.row.lt k hk).2)
  have HBK := Lib.hid (And.intro hc (And.intro hB hK))
  have HLen := Lib.hid (len19_any T v ps _ W1 HR.out)
  obtain ⟨f0, f1, f2, f3⟩ := HR.out.blk.cells
  dsimp only at f0 f2
  cases ps with
  | nil =>
    obtain ⟨al, cl, elv, _⟩ := owned_shape h.row
    rw [List.length_nil] at elv
    subst elv
    clear h hc hB hK
    go_enter Try.func9, Try.ntmps9
    go_wp2_with fail
    refine HLen.out.mono ?_
    rintro e w1 ⟨rfl, rfl⟩
    go_wp2_with (refine store_fr13 rfl (.tmp 2) (.tmp 8) rfl g Fr.zero none 0 0 _ rfl rfl HB1.out.2.1 rfl ?_)
    simp only [Fr.zero]
    have HZ := Lib.hid (show Below w.heap.size w (w1.setRow g #[.int .i64 0, .int .i64 0, .int .i64 0, .slice none 0 0]) ∧ (w1.setRow g #[.int .i64 0, .int .i64 0, .int .i64 0, .slice none 0 0]).heap[g]? = some (.cells #[.int .i64 0, .int .i64 0, .int .i64 0, .slice none 0 0] 34 (0, 0)) from ⟨below_setRow HB1.out.1 (by rw [HB1.out.2.2.2.1]; exact Nat.le_refl _) _, setRow_heap _ _ _ _ _ _ HB1.out.2.1⟩)
    have HR2 := Lib.hid (HR.out.turn (Turn.of_grown (setRow_grown w1 g #[.int .i64 0, .int .i64 0, .int .i64 0, .slice none 0 0])) (by have := HB1.out.2.2.1; omega) (fun k hk e => by have h1 := (HRow.out k hk); omega) (fun p hp => by cases hp))
    refine bodyPost_ret (results_row_tmp1 rfl _ _ g 34 #[.int .i64 0, .int .i64 0, .int .i64 0, .slice none 0 0] (0, 0) _ rfl HZ.out.2 Try.underlying34 rfl (by kernel_rfl)) rfl ?_
    exact ⟨B, K, .slice none 0 0, rfl, ⟨HBK.out.1, _, [], HR2.out, HBK.out.2⟩, Turn.of_below HZ.out.1, Sl.nil _ _, fun g hg => absurd rfl hg.1, fun g hg => .inl hg, fun g hg => .inl hg⟩
  | cons p ps =>
    obtain ⟨F, pv⟩ := p
    obtain ⟨M, hM⟩ : ∃ M, ps.length = M := ⟨_, rfl⟩
    obtain ⟨N, hN⟩ : ∃ N, M + 1 = N := ⟨_, rfl⟩
    obtain ⟨al, cl, elv, _⟩ := owned_shape h.row
    rw [List.length_cons, hM, hN] at elv
    subst elv
    have hN0 : 0 < N := by omega
    have d0 : ((N : Int) == 0) = false := by rw [beq_eq_false_iff_ne]; omega
    obtain ⟨ap, cp, hpv, _⟩ := id (HR.out.pay (F, pv) List.mem_cons_self)
    dsimp only at hpv
    subst hpv
    have HPay := Lib.hid (show Sl .u8 w (.slice ap F.pay.length cp) F.pay ∧ (∀ k, PayB F (.slice ap F.pay.length cp) k → k < g ∧ k ≠ T ∧ (Value.slice al N cl).ownBlock ≠ some k) from ⟨h.pay (F, .slice ap F.pay.length cp) List.mem_cons_self, fun k hk => ⟨by rw [← hg]; exact h.paylt (List.mem_cons_self (a := (F, Value.slice ap F.pay.length cp))) hk, h.np (F, .slice ap F.pay.length cp) List.mem_cons_self k hk⟩⟩)
    have HPs := Lib.hid (show ∀ q ∈ ps, Sl .u8 w q.2 q.1.pay from fun q hq => h.pay q (List.mem_cons_of_mem _ hq))
    have HNp := Lib.hid (show ∀ q ∈ ps, ∀ k, PayB q.1 q.2 k → k < g ∧ k ≠ T ∧ (Value.slice al N cl).ownBlock ≠ some k from fun q hq k hk => ⟨by rw [← hg]; exact h.paylt (List.mem_cons_of_mem _ hq) hk, h.np q (List.mem_cons_of_mem _ hq) k hk⟩)
    have HNv := Lib.hid (show ∀ k, (Value.slice al N cl).ownBlock = some k → k ≠ T from h.nv)
    have hrow1 : W1.ownsRow 0 34 4 (.slice al N cl) N (flat ((F, .slice ap F.pay.length cp) :: ps)) := by
      have := HR.out.row
      rwa [List.length_cons, hM, hN] at this
    obtain ⟨b, rfl⟩ : ∃ b, al = some ⟨b, 0, none⟩ := by
      obtain ⟨_, ⟨e, _⟩ | ⟨b, _, _, e, _⟩⟩ := id hrow1
      · simp only [Value.slice.injEq] at e; omega
      · simp only [Value.slice.injEq] at e; exact ⟨b, e.1⟩
    have hbT : b ≠ T := HNv.out b rfl
    have hbg : b < g := HRow.out b rfl
    obtain ⟨x0, x1, x2, x3⟩ : frAt W1 b 0 F (.slice ap F.pay.length cp) := by
      obtain ⟨b', off, e, _, hc⟩ := own_at19 hrow1 hN0
      have hc' := hc _ rfl
      simp only [Option.some.injEq, Addr.mk.injEq, and_true] at e
      obtain ⟨rfl, rfl⟩ := e
      exact hc'
    simp only [Nat.zero_add] at x1 x2 x3
    obtain ⟨C, hC⟩ : ∃ C, W1.heap.size = C := ⟨_, rfl⟩
    obtain ⟨W2, hW2⟩ : ∃ W2, W1.alloc (.cells #[.int .i64 0, .int .i64 0, .int .i64 0, .slice none 0 0] 34) = W2 := ⟨_, rfl⟩
    have HB2 := Lib.hid (show Below W1.heap.size W1 W2 ∧ W2.heap[C]? = some (.cells #[.int .i64 0, .int .i64 0, .int .i64 0, .slice none 0 0] 34 (0, 0)) from by
      rw [← hW2, ← hC]; exact ⟨(Below.refl _ _).alloc (Nat.le_refl _) _, heap_alloc_new _ _⟩)
    obtain ⟨W3, hW3⟩ : ∃ W3, W2.setRow C #[.int .i64 F.kind, .int .i64 F.flags, .int .i64 F.stream, .slice ap F.pay.length cp] = W3 := ⟨_, rfl⟩
    have HB3 := Lib.hid (show Below W1.heap.size W1 W3 ∧ W3.heap[C]? = some (.cells #[.int .i64 F.kind, .int .i64 F.flags, .int .i64 F.stream, .slice ap F.pay.length cp] 34 (0, 0)) from by
      rw [← hW3]; exact ⟨below_setRow HB2.out.1 (by rw [hC]; exact Nat.le_refl _) _, setRow_heap _ _ _ _ _ _ HB2.out.2⟩)
    have HR3 := Lib.hid (HR.out.below HB3.out.1)
    have HRow3 := Lib.hid (show W3.ownsRow 0 34 4 (.slice (some ⟨b, 0, none⟩) (ps.length + 1) cl) (ps.length + 1) (flat ((F, .slice ap F.pay.length cp) :: ps)) from by rw [hM, hN]; have := HR3.out.row; rwa [List.length_cons, hM, hN] at this)
    have HDel := Lib.hid (delete19_any b cl _ ps W3 HRow3.out (fun q hq => by obtain ⟨a', c', e, _⟩ := HPs.out q hq; exact ⟨_, _, _, e⟩))
    rw [hM, hN] at HDel
    obtain ⟨j0, j1, j2, j3⟩ := HR3.out.blk.cells
    dsimp only at j0 j2
    have HRg := Lib.hid (show T < g ∧ g < C ∧ w.heap.size = g ∧ b ≠ T ∧ b < g from ⟨HB1.out.2.2.1, by rw [← hC, HB1.out.2.2.2.2]; omega, hg, hbT, hbg⟩)
    have HMN := Lib.hid (And.intro hM hN)
    clear h hc hB hK hrow1 hbT hbg hM hN
    go_enter Try.func9, Try.ntmps9
    go_wp2_with fail
    refine HLen.out.mono ?_
    rintro e w1 ⟨rfl, rfl⟩
    go_wp2_with (refine store_fr13 rfl (.tmp 4) (.tmp 14) rfl C F ap F.pay.length cp _ rfl rfl HB2.out.2 rfl ?_)
    refine HDel.out.mono ?_
    rintro e w5 ⟨rfl, hr5, hg5⟩
    have hz := HRg.out
    have ht5 : Turn (fun k => k = b) W3 w5 := Turn.of_grown hg5
    have hT5 : w5.heap[T]? = W3.heap[T]? := hg5.block T HR3.out.blk.lt (fun e => hz.2.2.2.1 (Option.some.inj e).symm)
    have hb5 : CqBlk w5 T room (.slice (some ⟨b, 0, none⟩) N cl) ended := hT5.trans HR3.out.blk
    have hC5 : w5.heap[C]? = some (.cells #[.int .i64 F.kind, .int .i64 F.flags, .int .i64 F.stream, .slice ap F.pay.length cp] 34 (0, 0)) := ht5.obj HB3.out.2 (fun e => by have e' : C = b := e; omega)
    have hg5' : w5.heap[g]? = some (.cells #[.int .i64 0, .int .i64 0, .int .i64 0, .slice none 0 0] 34 (0, 0)) := ht5.obj ((HB3.out.1.block g (by rw [HB1.out.2.2.2.2]; omega)).trans HB1.out.2.1) (fun e => by have e' : g = b := e; omega)
    have hps5 : ∀ q ∈ ps, Sl .u8 w5 q.2 q.1.pay := fun q hq => (HR3.out.pay q (List.mem_cons_of_mem _ hq)).turn0 ht5 (fun hne k hk e => (HNp.out q hq k ⟨hne, hk⟩).2.2 (by have e' : k = b := e; rw [e']; rfl))
    have HQ5 := Lib.hid (show CqO (w5.setCell ⟨T, 1, none⟩ (.slice (some ⟨b, 0, none⟩) M cl)) T (.slice (some ⟨b, 0, none⟩) M cl) ps ⟨room, ps.map (·.1), ended⟩ from by
      have := CqO.setL (q := ⟨room, ((F, Value.slice ap F.pay.length cp) :: ps).map (·.1), ended⟩) (u := .slice (some ⟨b, 0, none⟩) M cl) (us := ps) hb5 (by rw [HMN.out.1]; exact hr5) hps5 (fun k hk => HNv.out k hk) (fun q hq k hk => ⟨(HNp.out q hq k hk).2.1, (HNp.out q hq k hk).2.2⟩)
      exact this)
    have HT6 := Lib.hid (show Turn (fun k => k = T) w5 (w5.setCell ⟨T, 1, none⟩ (.slice (some ⟨b, 0, none⟩) M cl)) from turn_set19 _ _ _)
    have HG6 := Lib.hid (And.intro (HT6.out.obj hg5' (fun e => by have e' : g = T := e; omega)) (HT6.out.obj hC5 (fun e => by have e' : C = T := e; omega)))
    have HTw := Lib.hid (show Turn (fun k => k = T ∨ k = b) w (w5.setCell ⟨T, 1, none⟩ (.slice (some ⟨b, 0, none⟩) M cl)) from
      (((Turn.of_below HB1.out.1).trans (Turn.of_below HB3.out.1)).trans' ht5 (fun k _ hk => .inr hk)).trans' HT6.out (fun k _ hk => .inl hk))
    rw [HMN.out.1]
    have jf := hb5.free 1
    have jb : w5.cell? ⟨T, 1, none⟩ = some (.slice (some ⟨b, 0, none⟩) N cl) := blk_cell (j := 1) hb5 rfl
    have jl := hb5.lt
    obtain ⟨W6, hW6⟩ : ∃ W6, w5.setCell ⟨T, 1, none⟩ (.slice (some ⟨b, 0, none⟩) M cl) = W6 := ⟨_, rfl⟩
    rw [hW6] at HQ5 HT6 HG6 HTw
    have y0 := blk_cell (j := 0) HG6.out.2 rfl
    have y1 := blk_cell (j := 1) HG6.out.2 rfl
    have y2 := blk_cell (j := 2) HG6.out.2 rfl
    have y3 := blk_cell (j := 3) HG6.out.2 rfl
    have y4 := (Array.getElem?_eq_some_iff.1 HG6.out.2).1
    clear hr5 hg5 hT5 hb5 hC5 hg5' hps5 ht5 hz x0 x1 x2 x3 j0 j1 j2 j3 f0 f1 f2 f3 hW1 hW2 hW3
    go_wp2_with (refine store_fr13 rfl (.tmp 2) (.tmp 23) rfl g F ap F.pay.length cp _ rfl rfl HG6.out.1 rfl ?_)
    have HZ := Lib.hid (setRow_heap _ _ _ #[.int .i64 F.kind, .int .i64 F.flags, .int .i64 F.stream, .slice ap F.pay.length cp] _ _ HG6.out.1)
    have HTz := Lib.hid (show Turn (fun k => k = g) W6 (W6.setRow g #[.int .i64 F.kind, .int .i64 F.flags, .int .i64 F.stream, .slice ap F.pay.length cp]) from Turn.of_grown (setRow_grown _ _ _))
    clear hW6
    generalize W6.setRow g #[.int .i64 F.kind, .int .i64 F.flags, .int .i64 F.stream, .slice ap F.pay.length cp] = W7 at HZ HTz ⊢
    refine bodyPost_ret (results_row_tmp1 rfl _ _ g 34 #[.int .i64 F.kind, .int .i64 F.flags, .int .i64 F.stream, .slice ap F.pay.length cp] (0, 0) _ rfl HZ.out Try.underlying34 rfl (by kernel_rfl)) rfl ?_
    have hz := HRg.out
    have ht : Turn (fun k => k = T ∨ k = b) w W7 := HTw.out.trans' HTz.out (fun k hk e => by have e' : k = g := e; omega)
    have hq7 : CqO W7 T (.slice (some ⟨b, 0, none⟩) M cl) ps ⟨room, ps.map (·.1), ended⟩ := HQ5.out.turn HTz.out (by omega) (fun k hk e => by have e' : k = g := e; have e2 : b = k := Option.some.inj hk; omega) (fun q hq k hk e => by have e' : k = g := e; have := (HNp.out q hq k hk).1; omega)
    obtain ⟨hc, hB, hK⟩ := HBK.out
    have hBT : ∀ k, B k ↔ k = T ∨ k = b := fun k => (hB k).trans (or_congr_right ⟨fun e => by cases e; rfl, fun e => by rw [e]; rfl⟩)
    refine ⟨B, fun k => ∃ q ∈ ps, PayB q.1 q.2 k, .slice ap F.pay.length cp, rfl, ⟨?_, _, ps, hq7, hB, fun k => Iff.rfl⟩, ht.mono (fun k _ hk => (hBT k).2 hk), ?_, ?_, fun k hk => .inl hk, fun k hk => .inl ((hK k).2 ?_)⟩
    · intro e
      have := hc e
      simp only [List.map_cons, List.length_cons, popQ] at this ⊢
      show (((ps.map (·.1)).length : Nat) : Int) ≤ room
      omega
    · exact HPay.out.1.turn0 ht (fun hne k hk e => by
        have h1 := HPay.out.2 k ⟨hne, hk⟩
        rcases e with e | e
        · exact h1.2.1 e
        · exact h1.2.2 (by rw [e]; rfl))
    · rintro k hk
      refine ⟨.inl ((hK k).2 ⟨_, List.mem_cons_self, hk⟩), fun e => ?_⟩
      have h1 := HPay.out.2 k hk
      rcases (hBT k).1 e with e | e
      · exact h1.2.1 e
      · exact h1.2.2 (by rw [e]; rfl)
    · obtain ⟨q, hq, hk⟩ := hk
      exact ⟨q, List.mem_cons_of_mem _ hq, hk⟩

theorem pPush19_nil (F : Fr) (pv : Value) (w : World) (hf : Sl .u8 w pv F.pay) : Calls Try.prog 14 #[.pointer none, .agg #[.int .i64 F.kind, .int .i64 F.flags, .int .i64 F.stream, pv]] w fun e w' => e = .returned (.int .i64 1) ∧ Below w.heap.size w w' := by
  obtain ⟨ap, cp, rfl, _⟩ := id hf
  clear hf
  go_enter Try.func14, Try.ntmps14
  go_wp2_with fail
  go_ret
  exact ⟨rfl, (Below.refl _ _).alloc (Nat.le_refl _) _⟩
theorem pLast19_nil (F : Fr) (pv : Value) (w : World) (hf : Sl .u8 w pv F.pay) : Calls Try.prog 12 #[.pointer none, .agg #[.int .i64 F.kind, .int .i64 F.flags, .int .i64 F.stream, pv]] w fun e w' => e = .returned (.int .i64 1) ∧ Below w.heap.size w w' := by
  obtain ⟨ap, cp, rfl, _⟩ := id hf
  clear hf
  go_enter Try.func12, Try.ntmps12
  go_wp2_with fail
  go_ret
  exact ⟨rfl, (Below.refl _ _).alloc (Nat.le_refl _) _⟩
theorem len19_nil (w : World) : Calls Try.prog 16 #[.pointer none] w fun e w' => e = .returned (.int .i64 0) ∧ w' = w := by
  go_enter Try.func16, Try.ntmps16
  go_wp2_with fail
  go_ret
  exact ⟨rfl, rfl⟩
theorem pLen19_nil (w : World) : Calls Try.prog 16 #[.pointer none] w fun e w' => e = .returned (.int .i64 0) ∧ Below w.heap.size w w' :=
  (len19_nil w).mono (by rintro e w' ⟨rfl, rfl⟩; exact ⟨rfl, Below.refl _ _⟩)
theorem pBytes19_nil (w : World) : Calls Try.prog 17 #[.pointer none] w fun e w' => e = .returned (.int .i64 0) ∧ Below w.heap.size w w' := by
  go_enter Try.func17, Try.ntmps17
  go_wp2_with fail
  go_ret
  exact ⟨rfl, Below.refl _ _⟩
theorem pEnded19_nil (w : World) : Calls Try.prog 19 #[.pointer none] w fun e w' => e = .returned (.bool false) ∧ Below w.heap.size w w' := by
  go_enter Try.func19, Try.ntmps19
  go_wp2_with fail
  go_ret
  exact ⟨rfl, Below.refl _ _⟩
theorem pPop19_nil (w : World) : Calls Try.prog 9 #[.pointer none] w fun e w' => e = .returned (.tuple #[.agg #[.int .i64 0, .int .i64 0, .int .i64 0, .slice none 0 0], .bool false]) ∧ Below w.heap.size w w' := by
  obtain ⟨g, hg⟩ : ∃ g, w.heap.size = g := ⟨_, rfl⟩
  obtain ⟨W1, hW1⟩ : ∃ W1, w.alloc (.cells #[.int .i64 0, .int .i64 0, .int .i64 0, .slice none 0 0] 34) = W1 := ⟨_, rfl⟩
  have HB1 := Lib.hid (show Below w.heap.size w W1 ∧ W1.heap[g]? = some (.cells #[.int .i64 0, .int .i64 0, .int .i64 0, .slice none 0 0] 34 (0, 0)) ∧ w.heap.size = g from by
    rw [← hW1, ← hg]; exact ⟨(Below.refl _ _).alloc (Nat.le_refl _) _, heap_alloc_new _ _, rfl⟩)
  go_enter Try.func9, Try.ntmps9
  go_wp2_with fail
  refine (len19_nil W1).mono ?_
  rintro e w1 ⟨rfl, rfl⟩
  go_wp2_with (refine store_fr13 rfl (.tmp 2) (.tmp 8) rfl g Fr.zero none 0 0 _ rfl rfl HB1.out.2.1 rfl ?_)
  simp only [Fr.zero]
  have HZ := Lib.hid (show Below w.heap.size w (w1.setRow g #[.int .i64 0, .int .i64 0, .int .i64 0, .slice none 0 0]) ∧ (w1.setRow g #[.int .i64 0, .int .i64 0, .int .i64 0, .slice none 0 0]).heap[g]? = some (.cells #[.int .i64 0, .int .i64 0, .int .i64 0, .slice none 0 0] 34 (0, 0)) from ⟨below_setRow HB1.out.1 (by rw [HB1.out.2.2]; exact Nat.le_refl _) _, setRow_heap _ _ _ _ _ _ HB1.out.2.1⟩)
  refine bodyPost_ret (results_row_tmp1 rfl _ _ g 34 #[.int .i64 0, .int .i64 0, .int .i64 0, .slice none 0 0] (0, 0) _ rfl HZ.out.2 Try.underlying34 rfl (by kernel_rfl)) rfl ?_
  exact ⟨rfl, HZ.out.1⟩
end Go.Proofs.Ytiappeagdnkedaa
