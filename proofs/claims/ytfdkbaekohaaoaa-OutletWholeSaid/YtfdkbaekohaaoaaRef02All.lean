
/-
  The document's own All of layer 2.
-/
import Derived.Test.YtfdkbaekohaaoaaRef02Next
import Derived.Test.YtfdkbaekohaaoaaFrameList
namespace Go.Proofs.Ytfdkbaekohaaoaa
open Go.RowKit

theorem Try.infoF : (Try.prog.info? 40).map (fun i => (i.zero, i.size, i.bytes)) = some (some (.agg #[.int .i64 0, .int .i64 0, .int .i64 0, .slice none 0 0]), 4, 48) := by kernel_rfl

theorem refAll_any (v : Value) (zs : List Int) (most : Int) (w : World) (hv : Sl .u8 w v zs) (hz : zs.length ≤ 1000000) :
    Calls Try.prog 16 #[v, .int .i64 most] w fun e w' => ∃ v' ps, e = .returned (.tuple #[v', .int .i64 (allOf most zs).2.1, .int .i64 (allOf most zs).2.2]) ∧ ps.map (·.1) = (allOf most zs).1 ∧ SlF w' v' ps ∧ Below w.heap.size w w' := by
  obtain ⟨a, cap, rfl, _⟩ := id hv
  have hf := hv.fit
  obtain ⟨i0, hi, hz0, hz1, hz2⟩ := info_parts Try.infoF
  go_enter Try.func16, Try.ntmps16
  go_wp2
  go_loopw [7, 8] (fun o i wr => ∃ (m : Nat) (ps : List (Fr × Value)), m ≤ zs.length ∧ 9 * ps.length ≤ m ∧ i = .int .i64 m ∧ wr.ownsRow w.heap.size 40 4 o ps.length (flat ps) ∧ (∀ p ∈ ps, Sl .u8 wr p.2 p.1.pay ∧ Ty wr 5 p.2) ∧
      Hid (allOf most zs = joinA (ps.map (·.1)) m (allOf most (zs.drop m))) ∧ Below w.heap.size w wr) (fun _ i _ => zs.length - (intOf i).toNat)
  case atStart => exact ⟨0, [], Nat.zero_le _, by simp, rfl, World.ownsRow_nil _ _ _ _, fun p hp => by simp at hp, (by show _ = _; simp [joinA]), Below.refl _ _⟩
  case round =>
    obtain ⟨m, ps, hm, hpm, rfl, hown, hps, HA, hb⟩ := hrel
    by_cases hlt : m < zs.length
    · have hvr := hv.below hb
      obtain ⟨vd, hrd, hvd⟩ := hvr.from_ Try.sliceR Try.sizeR (m : Int) (by omega) (by omega)
      rw [Int.toNat_natCast] at hvd
      go_wp2_with fail
      refine (refNext_any _ (zs.drop m) most _ hvd).mono ?_
      rintro e w1 ⟨fv, rfl, ⟨pv, rfl, hpv, hty⟩, hb1⟩
      obtain ⟨ap, cp, rfl, _⟩ := id hpv
      have hown1 := owned_below hown hb1
      have hps1 : ∀ p ∈ ps, Sl .u8 w1 p.2 p.1.pay ∧ Ty w1 5 p.2 := fun p hp => ⟨(hps p hp).1.below hb1, (hps p hp).2.below hb1⟩
      have hB1 := hb.trans (hb1.mono hb.size)
      have hz1' := hB1.size
      clear hown hps hvr hrd hvd hb1 hb
      by_cases he : nextE (zs.drop m) most = 0
      · have HJ := Lib.hid (joinA_step hf m (ps.map (·.1)) he)
        have hst := next_step he (hf.drop m)
        rw [List.length_drop] at hst
        rw [he]
        obtain ⟨n, hn⟩ : ∃ n : Nat, nextN (zs.drop m) most = (n : Int) := ⟨(nextN (zs.drop m) most).toNat, by omega⟩
        rw [hn] at hst ⊢
        have HN := Lib.hid hn
        obtain ⟨F, hF⟩ : ∃ F, F = nextF (zs.drop m) most := ⟨_, rfl⟩
        have HF := Lib.hid hF
        rw [← hF] at hpv hty hst ⊢
        clear he hn hF
        go_wp2_with (at_builtin; (refine app_row rfl (.tmp 30) (.tmp 32) 28 rfl w.heap.size 40 i0 _ 4 48 Try.underlying28 hi hz0 hz1 hz2 rfl (by decide) _ ps.length (flat ps) rfl ((hown1.alloc _).alloc _) _ 1 1 (frCells F (.slice ap F.pay.length cp)) rfl (fun h => by cases h) (by simp [frCells]) (fun ad h => by cases h; exact frCells_laid _ F _ _ _ (by simp)) (frCells_one F) (by unfold maxLen; omega) (by omega) (by simp; omega) ?_); intro v2 w2 hown2 hc2 hg2)
        have hps2 : ∀ p ∈ ps ++ [(F, Value.slice ap F.pay.length cp)], Sl .u8 w2 p.2 p.1.pay ∧ Ty w2 5 p.2 := fun p hp => by
          rcases List.mem_append.1 hp with hp | hp
          · have hA := apart_ty hown1 (hps1 p hp).2 (by decide)
            exact ⟨(((hps1 p hp).1.alloc _).alloc _).kept hg2 hA, (((hps1 p hp).2.below ((Below.refl _ _).alloc (Nat.le_refl _) _)).below ((Below.refl _ _).alloc (Nat.le_refl _) _)).kept hg2 hA⟩
          · simp only [List.mem_singleton] at hp
            subst hp
            have hA := apart_ty hown1 hty (by decide)
            exact ⟨((hpv.alloc _).alloc _).kept hg2 hA, ((hty.below ((Below.refl _ _).alloc (Nat.le_refl _) _)).below ((Below.refl _ _).alloc (Nat.le_refl _) _)).kept hg2 hA⟩
        go_roundw
        case rel =>
          refine ⟨m + n, ps ++ [(F, Value.slice ap F.pay.length cp)], by omega, by simp; omega, by go_num, ?_, hps2, ?_, ?_⟩
          · rw [flat_append, flat_one, List.length_append]; exact hown2
          · show _ = _
            have := HJ.out
            rw [HN.out, ← HF.out] at this
            rw [HA.out, this]
            simp
          · exact ((hB1.alloc hz1' _).alloc (by simp; omega) _).trans hc2
        case measure => simp [intOf]; omega
      · obtain ⟨E, hE⟩ : ∃ E, E = nextE (zs.drop m) most := ⟨_, rfl⟩
        have HB := Lib.hid (allOf_bad (most := most) (zs := zs.drop m) (by simp; omega) he)
        rw [← hE] at he ⊢
        have HE := Lib.hid hE
        have hd : (E != 0) = true := by simpa using he
        clear hE he
        go_wp2
        go_ret3
        have e : allOf most zs = (ps.map (·.1), (m : Int), E) := by rw [HA.out, HB.out, joinA, ← HE.out]; simp
        rw [e]
        exact ⟨_, ps, rfl, rfl, (SlF.of_own hown1 (fun p hp => (hps1 p hp).1)).below ((Below.refl _ _).alloc (Nat.le_refl _) _), hB1.alloc hz1' _⟩
    · obtain rfl : m = zs.length := by omega
      go_wp2
      go_ret3
      have e : allOf most zs = (ps.map (·.1), (zs.length : Int), 0) := by rw [HA.out, List.drop_of_length_le (Nat.le_refl _), allOf_nil, joinA]; simp
      rw [e]
      exact ⟨_, ps, rfl, rfl, SlF.of_own hown (fun p hp => (hps p hp).1), hb⟩

end Go.Proofs.Ytfdkbaekohaaoaa
