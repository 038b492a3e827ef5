
/-
  The map of paths that package huff makes; a code by its byte.
-/
import Derived.Test.YtimggejonppegaaDoorHuffCodes
import Derived.Maps.OwnSet
namespace Go.Proofs.YtimggejonppegaaDoor
open Go.RowKit Go.Maps

theorem arr_part {zs : List Int} (hz : zs.length = 257) (c : Nat) (hc : c < 257) (k : IntKind) (w : World) : (Instr.index 78 (.agg (intsA zs)) (.int k c)).run Tryd.prog w = .ok (.int .i64 (at0 zs c)) w := by
  have h3 : (sizeOf 3).run Tryd.prog w = .ok 1 w := by kernel_rfl
  have h4 : (isAgg 3).run Tryd.prog w = .ok false w := by kernel_rfl
  have hg := intsA_get (zs := zs) (i := c) (by omega)
  simp [Instr.index, asIntOf, run_underlying Tryd.arrUnder, h3, part, h4, hg, Result.andThen]
  exact fun h => absurd h (by omega)

/-- a code's path, and the map of the first ones -/
def pathK (c : Nat) : Nat := 2 ^ len c + code c
def pathD : Nat → DataW Unit
  | 0 => .map []
  | k + 1 => (pathD k).put (.int .i64 (pathK k)) (.lit (.int .i64 k))
theorem pathD_map : ∀ k, IsMap (pathD k)
  | 0 => isMap_empty
  | k + 1 => (pathD_map k).put _ _
theorem path_inj {n k m j : Nat} (hk : k < 2 ^ n) (hj : j < 2 ^ m) (h : 2 ^ n + k = 2 ^ m + j) : n = m ∧ k = j := by
  have hn : n = m := by
    rcases Nat.lt_trichotomy n m with h1 | h1 | h1
    · have := Nat.pow_le_pow_right (n := 2) (by omega) (show n + 1 ≤ m by omega)
      rw [Nat.pow_succ] at this
      omega
    · exact h1
    · have := Nat.pow_le_pow_right (n := 2) (by omega) (show m + 1 ≤ n by omega)
      rw [Nat.pow_succ] at this
      omega
  subst hn
  exact ⟨rfl, by omega⟩
theorem lit_int_ne {a b : Int} (h : a ≠ b) : Lit.int .i64 a ≠ Lit.int .i64 b := fun e => h (by injection e)
theorem isKey (a : Int) : WideAt.IsKeyLit (Lit.int .i64 a) := by unfold WideAt.IsKeyLit; trivial
theorem pathD_hit : ∀ {m c : Nat} (z : DataW Unit), m ≤ 257 → c < m → (pathD m).atKey (.int .i64 (pathK c)) z = .lit (.int .i64 c) ∧ has (pathD m) (.int .i64 (pathK c)) = true
  | m + 1, c, z, hm, hc => by
    by_cases he : c = m
    · subst he
      exact ⟨atKey_put_same (pathD_map _) (isKey _) _ _, has_put_same (pathD_map _) (isKey _) _⟩
    · have hne : pathK c ≠ pathK m := fun h => by
        obtain ⟨h1, h2⟩ := path_inj (code_lt (by omega)) (code_lt (by omega)) h
        exact he (code_inj (by omega) (by omega) h1 h2)
      have hne2 : (Lit.int .i64 (pathK c)) ≠ Lit.int .i64 (pathK m) := lit_int_ne (by exact_mod_cast hne)
      have ih := pathD_hit (m := m) z (by omega) (show c < m by omega)
      exact ⟨(atKey_put_other hne2 _ _).trans ih.1, (has_put_other hne2 _).trans ih.2⟩
theorem pathD_miss : ∀ {m : Nat} {p : Nat}, (∀ c, c < m → pathK c ≠ p) → has (pathD m) (.int .i64 p) = false
  | 0, _, _ => rfl
  | m + 1, p, h => by
    have hne : (Lit.int .i64 p) ≠ Lit.int .i64 (pathK m) := lit_int_ne (fun e => h m (by omega) (by exact_mod_cast e.symm))
    exact (has_put_other hne _).trans (pathD_miss (fun c hc => h c (by omega)))

theorem Tryd.mapUnder : Tryd.prog.underlying 80 = some (.map 3 3) := by kernel_rfl
theorem Tryd.keyed : Keyed Tryd.prog 3 := int_keyed Tryd.underlying3
theorem Tryd.zeroInt (w : World) : (zeroValue 3).run Tryd.prog w = .ok (.int .i64 0) w := by kernel_rfl
/-- the map of paths lies in a block -/
def Paths (w : World) (b : Nat) : Prop := w.ownsMap Tryd.prog 3 (plainElem (H := Unit) Tryd.prog 3) b 257 (pathD 257)
theorem owns_below {w w' : World} {R : Value → Option (DataW Unit × List MemPlace)} {b n : Nat} {D : DataW Unit} (h : w.ownsMap Tryd.prog 3 R b n D) (hb : Below w.heap.size w w') : w'.ownsMap Tryd.prog 3 R b n D := by
  have hl := h.lt
  obtain ⟨es, clock, hh, r⟩ := h
  exact ⟨es, clock, (hb.block b hl).trans hh, r⟩
theorem Paths.of_heap {w w' : World} {b : Nat} (h : Paths w b) (he : w'.heap[b]? = w.heap[b]?) : Paths w' b := by
  obtain ⟨es, clock, hh, r⟩ := h
  exact ⟨es, clock, he.trans hh, r⟩
theorem Paths.lt {w : World} {b : Nat} (h : Paths w b) : b < w.heap.size := World.ownsMap.lt h
/-- what is asked of it -/
def lookC (n k : Nat) : Nat := (look n k).getD 0
theorem Paths.look {w : World} {b n k : Nat} (h : Paths w b) (hk : k < 2 ^ n) (hn : n ≤ 40) :
    (Instr.lookup 80 (.map (some b)) (.int .i64 ((2 ^ n + k : Nat) : Int)) true).run Tryd.prog w = .ok (.tuple #[.int .i64 (lookC n k), .bool (Go.Proofs.YtimggejonppegaaDoor.look n k).isSome]) w := by
  have hp : 2 ^ n ≤ 2 ^ 40 := Nat.pow_le_pow_right (by omega) hn
  have hwf : (Lit.int .i64 ((2 ^ n + k : Nat) : Int)).wf = true := WalkArith.wf_i64 (by omega)
  obtain ⟨v, ps, hrun, hv⟩ := World.ownsMap.look_ok h Tryd.keyed Tryd.mapUnder (Tryd.zeroInt w) (plainElem_int Tryd.underlying3 (a := 0) (by decide)) (keyOf_int_mk Tryd.underlying3 hwf)
  rw [hrun]
  obtain ⟨a, rfl, hz, _⟩ := plainElem_int_inv Tryd.underlying3 hv
  cases e : Go.Proofs.YtimggejonppegaaDoor.look n k with
  | none =>
    have hm : has (pathD 257) (.int .i64 ((2 ^ n + k : Nat) : Int)) = false := pathD_miss (fun c hc hp => by
      obtain ⟨h1, h2⟩ := path_inj (code_lt hc) hk hp
      exact look_none e hc ⟨h1, h2⟩)
    have ha : (pathD 257).atKey (.int .i64 ((2 ^ n + k : Nat) : Int)) (.lit (.int .i64 0)) = .lit (.int .i64 0) := atKey_of_not_has hm _
    simp only [ha, Prod.mk.injEq, DataW.lit.injEq, Lit.int.injEq, true_and] at hz
    rw [hm, ← hz.1, lookC, e]
    rfl
  | some c =>
    obtain ⟨hc, h1, h2⟩ := look_of e
    subst h1 h2
    obtain ⟨ha, hh⟩ := pathD_hit (m := 257) (c := c) (.lit (.int .i64 0)) (Nat.le_refl _) hc
    unfold pathK at ha hh
    simp only [ha, Prod.mk.injEq, DataW.lit.injEq, Lit.int.injEq, true_and] at hz
    rw [hh, ← hz.1, lookC, e]
    rfl

theorem make_hint (w : World) : (Instr.makeMap 80 (some (.int .i64 257))).run Tryd.prog w = .ok (.map (some w.heap.size)) (w.alloc (.map #[] 0)) := by
  simp [Instr.makeMap, asInt, asIntOf]
theorem shl_one (L : Nat) (h : L ≤ 40) : IntKind.i64.wrap (2 ^ L) = 2 ^ L := by
  have hp : (2 : Int) ^ L ≤ 2 ^ 40 := by exact_mod_cast Nat.pow_le_pow_right (n := 2) (by omega) h
  have h0 : (0 : Int) < 2 ^ L := Int.pow_pos (by omega)
  exact wrap_i64_small (by omega) (by omega)
theorem or_path {c : Nat} (h : c < 257) : bits .or .i64 (2 ^ len c) (code c) = ((pathK c : Nat) : Int) := by
  have hb := len_bd h
  have hp : 2 ^ len c ≤ 2 ^ 30 := Nat.pow_le_pow_right (by omega) hb.2
  have hc := code_lt h
  have e : (2 : Int) ^ len c = ((2 ^ len c : Nat) : Int) := by simp
  have hlt : ((code c : Nat) : Int) < 2 ^ len c := by rw [e]; exact_mod_cast hc
  rw [i64_join (len c) (2 ^ len c) (code c) (by rw [e]; omega) (by rw [e]; omega) (by simp) (by omega) hlt (by rw [e] at hlt; omega), pathK, e]
  omega

theorem path_lt {c : Nat} (h : c < 257) : pathK c < 2147483648 := by
  have hb := len_bd h
  have hp : 2 ^ len c ≤ 2 ^ 30 := Nat.pow_le_pow_right (by omega) hb.2
  have := code_lt h
  unfold pathK
  omega
set_option maxRecDepth 20000 in
theorem paths_any (w : World) :
    Calls Tryd.prog 57 #[] w fun e w' => ∃ b, e = .returned (.map (some b)) ∧ w.heap.size ≤ b ∧ Paths w' b ∧ Below w.heap.size w w' := by
  have hmm := make_hint
  go_enter Tryd.func57, Tryd.ntmps57
  go_wp2_with fail
  clear hmm
  refine (codes_any _).mono ?_
  rintro e w1 ⟨rfl, hb1⟩
  have hown := owns_below (World.ownsMap_made w Tryd.prog 3 (plainElem (H := Unit) Tryd.prog 3)) hb1
  have hB := ((Below.refl w.heap.size w).alloc (Nat.le_refl _) (.map #[] 0)).trans (hb1.mono (by simp))
  clear hb1
  go_wp2_with fail
  go_loopw [6] (fun v wr => ∃ k : Nat, k ≤ 257 ∧ v = .int .i64 k ∧ wr.ownsMap Tryd.prog 3 (plainElem (H := Unit) Tryd.prog 3) w.heap.size k (pathD k) ∧ Below w.heap.size w wr) (fun v _ => 257 - (intOf v).toNat)
  case atStart => exact ⟨0, by omega, rfl, hown, hB⟩
  case round =>
    clear hown hB
    obtain ⟨k, hk, rfl, hown, hB⟩ := hrel
    by_cases hlt : k < 257
    · have hp := arr_part codeL_length k hlt .i64
      rw [codeL_at hlt] at hp
      have hb := len_bd hlt
      have hs := shl_one (len k) (by omega)
      have hcd := code_lt hlt
      have HO := Lib.hid (or_path hlt)
      clear hcd
      go_wp2_with fail
      refine (length_any k _ hlt).mono ?_
      rintro e w' ⟨rfl, n, rfl⟩
      have hwf : (Lit.int .i64 (bits .or .i64 (2 ^ len k) (code k))).wf = true := by
        rw [HO.out]
        have := path_lt hlt
        exact WalkArith.wf_i64 (by omega)
      have hwk : (Lit.int .i64 (k : Int)).wf = true := WalkArith.wf_i64 (by omega)
      have hown1 := owns_below hown (below_drewN (Below.refl _ wr) n)
      go_wp2_with (at_mapUpdate; refine wpList_mapUpdate_own _ rfl (.tmp 10) (.tmp 15) (.tmp 16) 80 rfl 3 3 Tryd.keyed Tryd.mapUnder _ w.heap.size k _ rfl hown1 (by unfold maxLen; omega) (.int .i64 (bits .or .i64 (2 ^ len k) (code k))) (.int .i64 k) (.int .i64 (bits .or .i64 (2 ^ len k) (code k))) rfl rfl (keyOf_int_mk Tryd.underlying3 hwf) (.lit (.int .i64 k)) [] (plainElem_int Tryd.underlying3 hwk) ?_; intro w2 hown2 hgrow2)
      go_roundw
      case rel =>
        refine ⟨k + 1, by omega, by go_num, ?_, (below_drewN hB n).grown hgrow2 hB.size (fun j hj => by cases hj; exact Nat.le_refl _)⟩
        rw [HO.out] at hown2
        exact hown2
      case measure => simp [intOf]; omega
    · obtain rfl : k = 257 := by omega
      go_wp2_with fail
      go_ret
      exact ⟨_, rfl, Nat.le_refl _, hown, hB⟩
end Go.Proofs.YtimggejonppegaaDoor
