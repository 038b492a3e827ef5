
/-
  Layer 13: the law IntakeChunks: frames.
-/
import Derived.Test.YtappehjcbjplaaaLaw13b
import Derived.Test.YtappehjcbjplaaaInkBack
import Derived.Test.YtappehjcbjplaaaRef02All
import Derived.Test.YtappehjcbjplaaaRef02List
import Derived.Maps.AppendAt
namespace Go.Proofs.Ytappehjcbjplaaa
set_option maxRecDepth 20000
open Go.RowKit

theorem nextI_shrinks {s : Ik} (hf : Fit .u8 s.got) (h : nextIE s = 0) : (nextIS s).got.length + 9 ≤ s.got.length ∧ Fit .u8 (nextIS s).got := by
  unfold nextIE at h
  by_cases ho : s.over = 0
  · rw [if_neg (by simp [ho])] at h
    by_cases hb : s.begun = false
    · rw [if_pos hb] at h; cases h
    · rw [if_neg hb] at h
      obtain ⟨_, a2, a3, _⟩ := next_step h hf
      have e : nextIS s = { s with got := s.got.drop (nextN s.got s.most).toNat } := by
        unfold nextIS; rw [if_neg (by simp [ho]), if_neg hb, if_pos h]
      rw [e]
      exact ⟨by show (s.got.drop _).length + 9 ≤ _; rw [List.length_drop]; omega, hf.drop _⟩
  · rw [if_pos ho] at h; exact absurd h ho

/-- a row of frames that is a call's own, their payloads in new blocks -/
def RowN (W : World) (base lo : Nat) (v : Value) (ps : List (Fr × Value)) : Prop :=
  W.ownsRow base 36 4 v ps.length (flat ps) ∧ ∀ p ∈ ps, Sl .u8 W p.2 p.1.pay ∧ (∀ g, p.2.ownBlock = some g → lo ≤ g ∧ g < W.heap.size ∧ v.ownBlock ≠ some g) ∧ ∃ a c, p.2 = .slice a p.1.pay.length c

theorem RowN.turn {W W' : World} {base lo : Nat} {v : Value} {ps : List (Fr × Value)} {S : Nat → Prop} (h : RowN W base lo v ps) (ht : Turn S W W') (h1 : ∀ g, v.ownBlock = some g → ¬ S g) (h2 : ∀ p ∈ ps, ∀ g, p.2.ownBlock = some g → ¬ S g) : RowN W' base lo v ps :=
  ⟨owned_turn h.1 ht h1, fun p hp => ⟨(h.2 p hp).1.turn ht (h2 p hp), fun g hg => ⟨((h.2 p hp).2.1 g hg).1, Nat.lt_of_lt_of_le ((h.2 p hp).2.1 g hg).2.1 ht.size, ((h.2 p hp).2.1 g hg).2.2⟩, (h.2 p hp).2.2⟩⟩
set_option maxHeartbeats 8000000 in
theorem frames13_any (T N : Nat) (O : Option Nat) (s : Ik) (w : World) (h : InAt w T O N s) (hl : s.got.length < 80001) (hN : N ≤ 10000000) :
    Calls Try.prog 17 #[.pointer (some ⟨T, 0, none⟩)] w fun e w' => ∃ v ps O', e = .returned (.tuple #[v, .int .i64 (framesI 8889 s).2.1]) ∧ ps.map (·.1) = (framesI 8889 s).1 ∧ RowN w' w.heap.size w.heap.size v ps ∧
      InAt w' T O' N (framesI 8889 s).2.2 ∧ Turn (fun k => k = T ∨ O = some k) w w' ∧ (∀ g, O' = some g → O = some g ∨ w.heap.size ≤ g) ∧ (∀ g, O' = some g → v.ownBlock ≠ some g ∧ ∀ p ∈ ps, p.2.ownBlock ≠ some g) ∧ ps.length ≤ 8889 := by
  obtain ⟨i0, hi, hz0, hz1, hz2⟩ := info_parts Try.infoF
  have HA := Lib.hid h
  have HF := Lib.hid h.fit
  clear h
  go_enter Try.func17, Try.ntmps17
  go_wp2_with fail
  go_loopg [4, 5, 6, 7] 8889 (fun q s4 s5 s6 s7 wr => ∃ k : Nat, k + q = 8889 ∧ s5 = .int .i64 k ∧ ∃ v ps O' s', s4 = v ∧ ps.length = k ∧ Hid (framesI 8889 s = (ps.map (·.1) ++ (framesI (8889 - k) s').1, (framesI (8889 - k) s').2) ∧ s'.got.length + 9 * k ≤ s.got.length ∧ Fit .u8 s'.got) ∧
    Hid (RowN wr w.heap.size w.heap.size v ps ∧ InAt wr T O' N s' ∧ Turn (fun k => k = T ∨ O = some k) w wr ∧ (∀ g, O' = some g → O = some g ∨ w.heap.size ≤ g) ∧ (∀ g, O' = some g → v.ownBlock ≠ some g ∧ ∀ p ∈ ps, p.2.ownBlock ≠ some g)))
  case atStart => exact ⟨0, by omega, rfl, .slice none 0 0, [], O, s, rfl, rfl, Lib.hid ⟨by simp, by omega, HF.out.1⟩, Lib.hid ⟨⟨World.ownsRow_nil _ _ _ _, fun p hp => by cases hp⟩, HA.out, Turn.of_below (Below.refl _ _), fun g hg => .inl hg, fun g hg => ⟨fun e => (by cases e), fun p hp => (by cases hp)⟩⟩⟩
  case round =>
    obtain ⟨k, hkq, rfl, v, ps, O', s', rfl, hps, HY, HW⟩ := hrel
    subst hps
    have HKQ := Lib.hid hkq
    have hk : ps.length < 8889 := by have := HY.out.2.1; omega
    have hkk : (ps.length : Int) ≤ 8888 := by omega
    clear hkq
    obtain ⟨av, cv, rfl, _⟩ := owned_shape HW.out.1.1
    go_wp2_with fail
    refine (pNext_any T N O' s' wr HW.out.2.1 hN).mono ?_
    rintro e w6 ⟨fv, O6, rfl, ⟨pv, rfl, hpv, hfr⟩, ha6, ht6, ho6⟩
    obtain ⟨F, hF⟩ : ∃ F, nextIF s' = F := ⟨_, rfl⟩
    obtain ⟨E, hE⟩ : ∃ E, nextIE s' = E := ⟨_, rfl⟩
    rw [hF] at hpv ⊢
    rw [hE]
    have HFE := Lib.hid (And.intro hF hE)
    obtain ⟨ap, cp, rfl, _⟩ := id hpv
    obtain ⟨C1, hC1⟩ : ∃ C, w6.heap.size = C := ⟨_, rfl⟩
    obtain ⟨W6, hW6⟩ : ∃ W, w6.alloc (.cells #[.int .i64 F.kind, .int .i64 F.flags, .int .i64 F.stream, .slice ap F.pay.length cp] 36) = W := ⟨_, rfl⟩
    have HTl := Lib.hid HA.out.lt.1
    have HA6 := Lib.hid (show InAt W6 T O6 N (nextIS s') ∧ Turn (fun k => k = T ∨ O = some k) w W6 ∧ (∀ g, O6 = some g → O = some g ∨ w.heap.size ≤ g) ∧ Sl .u8 W6 (.slice ap F.pay.length cp) F.pay ∧ W6.heap[C1]? = some (.cells #[.int .i64 F.kind, .int .i64 F.flags, .int .i64 F.stream, .slice ap F.pay.length cp] 36 (0, 0)) ∧
        (∀ g, (Value.slice ap F.pay.length cp).ownBlock = some g → w.heap.size ≤ g ∧ wr.heap.size ≤ g ∧ g < W6.heap.size ∧ O6 ≠ some g) ∧ RowN W6 w.heap.size w.heap.size (.slice av ps.length cv) ps ∧ (∀ g, O6 = some g → (Value.slice av ps.length cv).ownBlock ≠ some g ∧ g < C1 ∧ ∀ p ∈ ps, p.2.ownBlock ≠ some g) ∧ wr.heap.size ≤ C1 ∧ C1 < W6.heap.size ∧ w.heap.size ≤ wr.heap.size ∧ (∀ g, (Value.slice av ps.length cv).ownBlock = some g → g < wr.heap.size) from by
      have hal : Below w6.heap.size w6 W6 := by rw [← hW6]; exact (Below.refl _ _).alloc (Nat.le_refl _) _
      have hsz6 : W6.heap.size = w6.heap.size + 1 := by rw [← hW6]; simp
      obtain ⟨b1, b2, b3, b4, b5⟩ := HW.out
      have hts := ht6.size
      have hws := b3.size
      have hT := HTl.out
      have hrow : ∀ g, (Value.slice av ps.length cv).ownBlock = some g → ¬ (g = T ∨ O' = some g) := fun g hg e => by
        have := (b1.1.lt g hg).1
        rcases e with e | e
        · omega
        · exact (b5 g e).1 hg
      have hpay : ∀ p ∈ ps, ∀ g, p.2.ownBlock = some g → ¬ (g = T ∨ O' = some g) := fun p hp g hg e => by
        have := ((b1.2 p hp).2.1 g hg).1
        rcases e with e | e
        · omega
        · exact (b5 g e).2 p hp hg
      have hl6 := ha6.lt
      refine ⟨ha6.turn (Turn.of_below hal (S := fun _ => False)) id (fun _ _ => id), (b3.trans' ht6 (fun k hk hh => by
        rcases hh with hh | hh
        · exact .inl hh
        · rcases b4 k hh with h | h
          · exact .inr h
          · omega)).trans (Turn.of_below hal), fun g hg => ?_, hpv.below hal, by rw [← hW6, ← hC1]; exact heap_alloc_new _ _, fun g hg => ?_, (b1.turn ht6 hrow hpay).turn (Turn.of_below hal (S := fun _ => False)) (fun _ _ => id) (fun _ _ _ _ => id), fun g hg => ⟨fun e => ?_, by have := hl6.2 g hg; omega, fun p hp e => ?_⟩, by omega, by omega, hws, fun g hg => (b1.1.lt g hg).2⟩
      · rcases ho6 with rfl | ho6
        · exact b4 g hg
        · have := ho6 g hg; exact .inr (by omega)
      · obtain ⟨h1, h2, h3⟩ := hfr g hg
        exact ⟨by omega, h1, by omega, h3⟩
      · rcases ho6 with rfl | ho6
        · exact (b5 g hg).1 e
        · have h1 := ho6 g hg; have h2 := (b1.1.lt g e).2; omega
      · rcases ho6 with rfl | ho6
        · exact (b5 g hg).2 p hp e
        · have h1 := ho6 g hg; have h2 := ((b1.2 p hp).2.1 g e).2.1; omega)
    have HYY := Lib.hid (show framesI (8889 - ps.length) s' = framesI (8888 - ps.length + 1) s' by rw [show 8888 - ps.length + 1 = 8889 - ps.length by omega])
    clear hpv hfr ha6 ht6 ho6 hF hE
    by_cases he : E = 0
    · subst he
      have he0 : ((0 : Int) != 0) = false := rfl
      have q0 := blk_cell (j := 0) HA6.out.2.2.2.2.1 rfl
      have q1 := blk_cell (j := 1) HA6.out.2.2.2.2.1 rfl
      have q2 := blk_cell (j := 2) HA6.out.2.2.2.2.1 rfl
      have q3 := blk_cell (j := 3) HA6.out.2.2.2.2.1 rfl
      have q4 := (Array.getElem?_eq_some_iff.1 HA6.out.2.2.2.2.1).1
      have hown := HA6.out.2.2.2.2.2.2.1.1
      have hws : w.heap.size ≤ W6.heap.size := by obtain ⟨_, _, _, _, _, _, _, _, h1, h2, h3, _⟩ := HA6.out; omega
      go_wp2_with (at_builtin; (refine wpList_append_own_at _ rfl (.tmp 21) (.tmp 23) 42 rfl w.heap.size 36 i0 _ 4 48 Try.underlying42 hi hz0 hz1 hz2 rfl (by decide) _ ps.length (flat ps) rfl (hown.alloc _) _ 1 1 (frCells F (.slice ap F.pay.length cp)) rfl (by simp [frCells]) (frCells_laid _ F _ _ _ rfl) (frCells_one F) (by unfold maxLen; omega) (by omega) (by simp; omega) ?_); intro v2 w2 hown2 hg2 _ hat2)
      have HN := Lib.hid (show RowN w2 w.heap.size w.heap.size v2 (ps ++ [(F, .slice ap F.pay.length cp)]) ∧ InAt w2 T O6 N (nextIS s') ∧ Turn (fun k => k = T ∨ O = some k) w w2 ∧ (∀ g, O6 = some g → O = some g ∨ w.heap.size ≤ g) ∧ (∀ g, O6 = some g → v2.ownBlock ≠ some g ∧ ∀ p ∈ ps ++ [(F, .slice ap F.pay.length cp)], p.2.ownBlock ≠ some g) from by
        obtain ⟨a1, a2, a3, a4, a5, a6, a7, a8, a9, a10, a11, a12⟩ := HA6.out
        have hT := HTl.out
        have hal := (Below.refl _ W6).alloc (Nat.le_refl _) (.cells #[.int .i64 F.kind, .int .i64 F.flags, .int .i64 F.stream, .slice ap F.pay.length cp] 36)
        have hsz : (W6.alloc (.cells #[.int .i64 F.kind, .int .i64 F.flags, .int .i64 F.stream, .slice ap F.pay.length cp] 36)).heap.size = W6.heap.size + 1 := by simp
        have hg := Turn.of_row hg2
        have hl6 := a1.lt
        have hrl := fun g (hgg : (Value.slice av ps.length cv).ownBlock = some g) => a7.1.lt g hgg
        have hs2 := hg2.size
        have hv2 : ∀ g, v2.ownBlock = some g → (Value.slice av ps.length cv).ownBlock = some g ∨ g = W6.heap.size + 1 := fun g hgg => by
          rcases (show v2.ownBlock = (Value.slice av ps.length cv).ownBlock ∨ v2.ownBlock = some (W6.alloc (.cells #[.int .i64 F.kind, .int .i64 F.flags, .int .i64 F.stream, .slice ap F.pay.length cp] 36)).heap.size from hat2) with h | h
          · exact .inl (by rw [← h]; exact hgg)
          · right; rw [hgg] at h; have := Option.some.inj h; omega
        have hO6 : ∀ g, O6 = some g → v2.ownBlock ≠ some g := fun g hgg e => by
          rcases hv2 g e with h | h
          · exact (a8 g hgg).1 h
          · have := hl6.2 g hgg; omega
        refine ⟨⟨by rw [flat_append, flat_one, List.length_append]; exact hown2, fun p hp => ?_⟩, (a1.turn (Turn.of_below hal (S := fun _ => False)) id (fun _ _ => id)).turn hg (fun e => by have := (hrl T e).1; omega) (fun g hgg e => (a8 g hgg).1 e), (a2.trans (Turn.of_below hal)).trans' hg (fun k hk hh => by have := (hrl k hh).1; omega), a3, fun g hgg => ⟨hO6 g hgg, fun p hp e => ?_⟩⟩
        · rcases List.mem_append.1 hp with hp | hp
          · obtain ⟨b1, b2, b3⟩ := a7.2 p hp
            refine ⟨((b1.below hal).turn hg (fun g hgg e => (b2 g hgg).2.2 e)), fun g hgg => ⟨(b2 g hgg).1, by have := (b2 g hgg).2.1; omega, fun e => ?_⟩, b3⟩
            rcases hv2 g e with h | h
            · exact (b2 g hgg).2.2 h
            · have := (b2 g hgg).2.1; omega
          · simp only [List.mem_singleton] at hp
            subst hp
            refine ⟨((a4.below hal).turn hg (fun g hgg e => by have h1 := a12 g e; have h2 := (a6 g hgg).2.1; omega)), fun g hgg => ⟨(a6 g hgg).1, by have := (a6 g hgg).2.2.1; omega, fun e => ?_⟩, ⟨_, _, rfl⟩⟩
            rcases hv2 g e with h | h
            · have h1 := a12 g h; have h2 := (a6 g hgg).2.1; omega
            · have := (a6 g hgg).2.2.1; omega
        · rcases List.mem_append.1 hp with hp | hp
          · exact (a8 g hgg).2.2 p hp e
          · simp only [List.mem_singleton] at hp
            subst hp
            exact (a6 g e).2.2.2 hgg)
      have HYn := Lib.hid (show framesI 8889 s = ((ps ++ [(F, Value.slice ap F.pay.length cp)]).map (·.1) ++ (framesI (8889 - (ps.length + 1)) (nextIS s')).1, (framesI (8889 - (ps.length + 1)) (nextIS s')).2) ∧ (nextIS s').got.length + 9 * (ps.length + 1) ≤ s.got.length ∧ Fit .u8 (nextIS s').got from by
        obtain ⟨h1, h2⟩ := nextI_shrinks HY.out.2.2 HFE.out.2
        refine ⟨?_, by have := HY.out.2.1; omega, h2⟩
        rw [HY.out.1, HYY.out, framesI_go HFE.out.2, HFE.out.1, show 8889 - (ps.length + 1) = 8888 - ps.length by omega]
        simp)
      go_roundg (8889 - (ps.length + 1))
      case measure => have := HKQ.out; omega
      case rel => exact ⟨ps.length + 1, by omega, by go_num, v2, _, O6, _, rfl, by simp, HYn, HN⟩
    · have he1 : (E != 0) = true := by simpa using he
      have HFin := Lib.hid (show framesI 8889 s = (ps.map (·.1), E, nextIS s') from by
        rw [HY.out.1, HYY.out, framesI_stop (by rw [HFE.out.2]; exact he), HFE.out.2]; simp)
      clear he
      go_wp2_with fail
      go_ret2
      have hA := HA6.out
      refine ⟨_, ps, O6, by rw [HFin.out]; rfl, by rw [HFin.out], hA.2.2.2.2.2.2.1, by rw [HFin.out]; exact hA.1, hA.2.1, hA.2.2.1, fun g hg => ⟨(hA.2.2.2.2.2.2.2.1 g hg).1, (hA.2.2.2.2.2.2.2.1 g hg).2.2⟩, by omega⟩
end Go.Proofs.Ytappehjcbjplaaa
