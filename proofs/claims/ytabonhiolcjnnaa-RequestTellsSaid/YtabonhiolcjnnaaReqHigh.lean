
/-
  Layer 10, the program's own: strings.ContainsRune at runes of several bytes.
-/
import Derived.Test.YtabonhiolcjnnaaReqRune
import Derived.Lib.IndexBytes
namespace Go.Proofs.Ytabonhiolcjnnaa
set_option maxRecDepth 20000
open Go.RowKit

theorem encode_high (r : Int) (h : 128 ≤ r) : 1 ≤ (Utf8.encode r).size ∧ (Utf8.encode r).size ≤ 4 ∧ 128 ≤ at0 (nums (Utf8.encode r)) ((Utf8.encode r).size - 1) := by
  have hlt : ∀ n : Nat, n < 64 → (UInt8.ofNat (128 + n)).toNat = 128 + n := fun n hn => by rw [UInt8.toNat_ofNat']; omega
  have hc : 128 ≤ (if Utf8.valid r = true then r.toNat else Utf8.runeError) := by
    split
    · omega
    · unfold Utf8.runeError; omega
  unfold Utf8.encode
  generalize (if Utf8.valid r = true then r.toNat else Utf8.runeError) = c at hc
  rw [if_neg (by omega)]
  have hlast : ∀ n : Nat, 128 ≤ (128 + n % 64) % 256 := fun n => by omega
  split
  · refine ⟨by show 1 ≤ 2; omega, by show 2 ≤ 4; omega, ?_⟩
    show (128 : Int) ≤ ((UInt8.ofNat (128 + c % 64)).toNat : Int)
    rw [UInt8.toNat_ofNat']; have := hlast c; omega
  · split
    · refine ⟨by show 1 ≤ 3; omega, by show 3 ≤ 4; omega, ?_⟩
      show (128 : Int) ≤ ((UInt8.ofNat (128 + c % 64)).toNat : Int)
      rw [UInt8.toNat_ofNat']; have := hlast c; omega
    · refine ⟨by show 1 ≤ 4; omega, by show 4 ≤ 4; omega, ?_⟩
      show (128 : Int) ≤ ((UInt8.ofNat (128 + c % 64)).toNat : Int)
      rw [UInt8.toNat_ofNat']; have := hlast c; omega
def IsB (e : Ending) : Prop := ∃ b, e = .returned (.bool b)
set_option maxHeartbeats 1000000 in
theorem validRune_any (r : Int) (w : World) :
    Calls Try.prog 42 #[.int .i32 r] w fun e w' => IsB e ∧ w' = w := by
  go_enter Try.func42, Try.ntmps42
  go_wp2_with fail
  all_goals
    go_ret
    exact ⟨⟨_, rfl⟩, rfl⟩
set_option maxHeartbeats 4000000 in
theorem idxRune_high (s : ByteArray) (r : Int) (w : World) (hs : s.size = 15) (ha : Asc s) (h : 128 ≤ r) :
    Calls Try.prog 40 #[.string s, .int .i32 r] w fun e w' => e = .returned (.int .i64 (-1)) ∧ Below w.heap.size w w' := by
  have HA := Lib.hid ha
  have HS := Lib.hid hs
  obtain ⟨e1, e2, e3⟩ := encode_high r h
  obtain ⟨rs, hrs⟩ : ∃ rs, Utf8.encode r = rs := ⟨_, rfl⟩
  rw [hrs] at e1 e2 e3
  obtain ⟨m, hm⟩ : ∃ m, rs.size = m + 1 := ⟨rs.size - 1, by omega⟩
  have d0 : decide (0 ≤ r) = true := decide_eq_true (by omega)
  have d1 : decide (r < 128) = false := decide_eq_false (by omega)
  obtain ⟨b, hb⟩ : ∃ b, (r == 65533) = b := ⟨_, rfl⟩
  have hlen : ∀ W, (Builtin.len_ #[9] 3 #[.string s]).run Try.prog W = .ok (.int .i64 15) W := fun W => by
    rw [run_len_string W _ _ s Try.underlying9, HS.out]; rfl
  have hcv : ∀ W, (convert 21 9 (.int .i32 r)).run Try.prog W = .ok (.string rs) W := fun W => by
    rw [← hrs]
    simp [convert, run_underlying Try.underlying9, run_underlying Try.underlying21, Conv.intToString, Result.andThen]
  have hlr : ∀ W, (Builtin.len_ #[9] 3 #[.string rs]).run Try.prog W = .ok (.int .i64 ((m + 1 : Nat) : Int)) W := fun W => by
    rw [run_len_string W _ _ rs Try.underlying9, hm]; rfl
  rw [hm, Nat.add_sub_cancel] at e3
  have hm3 : m ≤ 3 := by omega
  have hi1 := str_at (P := Try.prog) (t := 9) Try.underlying9 s (k := m) (by omega)
  have hi2 := str_at (P := Try.prog) (t := 9) Try.underlying9 rs (k := m) (by omega)
  have hl1 := ha m (by omega)
  have hs1 : ∀ W, (Instr.slice 9 (.string s) (some (.int .i64 (IntKind.i64.wrap ((m : Int) + 1)))) none none).run Try.prog W = .ok (.string (s.extract (m + 1) s.size)) W := fun W => by
    rw [wrap_i64_small (by omega) (by omega), run_slice_string_l W 9 s Try.underlying9 .i64 ((m : Int) + 1) (by omega) (by omega)]
    congr 3
  obtain ⟨x, hx⟩ : ∃ x, at0 (nums s) m = x := ⟨_, rfl⟩
  obtain ⟨y, hy⟩ : ∃ y, at0 (nums rs) m = y := ⟨_, rfl⟩
  have hy2 : 128 ≤ y ∧ y ≤ 255 := ⟨by rw [← hy]; exact e3, by rw [← hy]; exact ((nums_fit rs).byte m).2⟩
  have HN := Lib.hid (show Lib.indexByte (s.extract (m + 1) s.size).data.toList y.toNat.toUInt8 = -1 by
    refine idx_none _ _ (fun b hb e => ?_)
    rw [Lib.extract_to_end] at hb
    obtain ⟨i, hi, rfl⟩ := List.mem_iff_getElem.1 (List.mem_of_mem_drop hb)
    have := ha i hi
    rw [get_num' hi] at this
    have e2 : (s[i]'hi).toNat = y.toNat := by
      rw [show (s[i]'hi) = y.toNat.toUInt8 from e]
      show (UInt8.ofNat y.toNat).toNat = _
      rw [UInt8.toNat_ofNat']; omega
    omega)
  have hxy : (x != y) = true := bne_iff_ne.2 (by omega)
  rw [hx] at hi1
  rw [hy] at hi2
  obtain ⟨u, hu⟩ : ∃ u, s.extract (m + 1) s.size = u := ⟨_, rfl⟩
  rw [hu] at hs1 HN
  have HC : Hid (∀ W, Calls Try.prog 41 #[.string u, .int .u8 y] W fun e w' => e = .returned (.int .i64 (-1)) ∧ w' = W) := Lib.hid fun W => by
    have := idxByte_any u y W
    rwa [HN.out] at this
  clear ha hs h hrs hm hl1 hx hy hu e1 e2 e3
  cases b
  · go_enter Try.func40, Try.ntmps40
    go_wp2_with fail
    refine (validRune_any _ _).mono ?_
    rintro e w1 ⟨⟨v, rfl⟩, rfl⟩
    cases v
    · go_wp2_with fail
      go_ret
      exact ⟨rfl, Below.refl _ _⟩
    · go_wp2_with fail
      go_step3
      go_wp2_with fail
      go_loopg [9] 0 (fun q s9 wr => s9 = .int .i64 m ∧ wr = w1)
      case atStart => exact ⟨by trivial, rfl⟩
      case round =>
        obtain ⟨rfl, rfl⟩ := hrel
        go_wp2_with fail
        go_step3
        go_wp2_with fail
        go_quiet (fail)
        have HB := Lib.hid (below_drewN (Below.refl wr.heap.size wr) nq)
        generalize wr.drewN nq = w2 at HB ⊢
        clear nq
        go_wp2_with fail
        go_quiet ((go_at_call 41; exact Calls.quiet_of_same (HC.out _)))
        go_wp2_with fail
        rw [Exit.noGoto_ret]
        simp only [Exit.inBlock, Exit.then, Exit.noGoto_ret]
        go_ret
        exact ⟨rfl, below_drewN HB.out _⟩
  · go_enter Try.func40, Try.ntmps40
    go_wp2_with fail
    have hsz : 15 = s.size := HS.out.symm
    go_loopg [6] s.size (fun g _ wr => ∃ pos : Nat, pos + g = s.size ∧ wr = w.iter s pos)
    case atStart => exact ⟨0, by omega, rfl⟩
    case round =>
      obtain ⟨pos, hpg, rfl⟩ := hrel
      have HPG := Lib.hid hpg
      by_cases hlt : pos < s.size
      · obtain ⟨c, n, hn1, hn2, hc0, hc1, hcc, hnx⟩ := rune_step s pos hlt
        have hcl : c < 128 := by
          rcases hcc with ⟨h, _⟩ | ⟨_, h⟩
          · exact h
          · have h5 := h 0 (by omega)
            have := HA.out pos hlt
            rw [Nat.add_zero] at h5
            omega
        have hcn : (c == 65533) = false := beq_eq_false_iff_ne.2 (by omega)
        have hnx2 := hnx Try.prog
        clear hcc hnx hpg
        go_wp2_with fail
        go_roundg (s.size - (pos + n))
        case measure => have := HPG.out; omega
        case rel => exact ⟨pos + n, by omega, rfl⟩
      · have hnx := run_next_end (P := Try.prog) w s pos
        clear hpg
        go_wp2_with fail
        go_ret
        exact ⟨rfl, iter_below _ _ _⟩
end Go.Proofs.Ytabonhiolcjnnaa
