/-
  The statement HuffCodes: its walk.
-/
import Derived.Test.YtlmecnnednejmaaLaw04a
namespace Go.Proofs.Ytlmecnnednejmaa
open Go.RowKit

def three (a b i : Nat) : Nat := [a, b, 256].getD i 0
theorem three_lt {a b i : Nat} (ha : a < 256) (hb : b < 256) (hi : i < 3) : three a b i < 257 := by
  rcases (show i = 0 ∨ i = 1 ∨ i = 2 by omega) with rfl | rfl | rfl <;> simp [three] <;> omega
theorem three_get {a b i : Nat} (hi : i < 3) : (#[Value.int .i64 (a : Int), .int .i64 (b : Int), .int .i64 256] : Array Value)[i]? = some (.int .i64 (three a b i)) := by
  rcases (show i = 0 ∨ i = 1 ∨ i = 2 by omega) with rfl | rfl | rfl <;> rfl
theorem arr3_index (B c : Nat) (hc : c < 3) (w : World) : (Instr.indexAt 33 (.pointer (some ⟨B, 0, none⟩)) (.int .i64 c)).run Try.prog w = .ok (.pointer (some ⟨B, c, none⟩)) w := by
  have h : Try.prog.underlying 33 = some (.array (Try.prog.arrayLen 33) (Try.prog.elem 33)) := by kernel_rfl
  have h2 : Try.prog.arrayLen 33 = 3 := by kernel_rfl
  have h3 : (sizeOf (Try.prog.elem 33)).run Try.prog w = .ok 1 w := by kernel_rfl
  rw [run_indexAt_array w 33 ⟨B, 0, none⟩ .i64 c h, h2, if_pos ⟨by omega, by omega⟩, h3]
  simp [Result.andThen, Addr.add, eq_comm]
theorem lenZ_nat {c : Nat} (h : c < 257) : lenZ (c : Int) = (len c : Int) := by rw [lenZ, if_pos (by omega), Int.toNat_natCast]
theorem codeZ_nat {c : Nat} (h : c < 257) : codeZ (c : Int) = (code c : Int) := by rw [codeZ, if_pos (by omega), Int.toNat_natCast]

set_option maxHeartbeats 1000000 in
set_option maxRecDepth 20000 in
theorem codes4_any (a b : Nat) (w : World) (ha : a < 256) (hb : b < 256) :
    Calls Try.prog 5 #[.int .u8 a, .int .u8 b] w fun e w' => e = .returned (.bool true) ∧ Below w.heap.size w w' := by
  go_enter Try.func5, Try.ntmps5
  go_wp2_with fail
  go_loopg [6] 3 (fun g s6 wx => ∃ i : Nat, i + g = 3 ∧ s6 = .int .i64 i ∧ wx.heap[w.heap.size]? = some (.cells #[.int .i64 (a : Int), .int .i64 (b : Int), .int .i64 256] 33 (0, 0)) ∧ Below w.heap.size w wx)
  case atStart => exact ⟨0, rfl, rfl, heap_alloc_new _ _, (Below.refl _ _).alloc (Nat.le_refl _) _⟩
  case round =>
    obtain ⟨i, hig, rfl, hh, hB⟩ := hrel
    have HIG := Lib.hid hig
    have hi3 : i ≤ 3 := by omega
    have HH := Lib.hid hh
    have HB := Lib.hid hB
    clear hig hh hB
    by_cases hlt : i < 3
    · have di : decide ((i : Int) < 3) = true := decide_eq_true (by omega)
      go_wp2_with fail
      go_loopg [7] 3 (fun g s7 wy => ∃ k : Nat, k + g = 3 ∧ s7 = .int .i64 k ∧ wy.heap[w.heap.size]? = some (.cells #[.int .i64 (a : Int), .int .i64 (b : Int), .int .i64 256] 33 (0, 0)) ∧ Below w.heap.size w wy)
      case atStart => exact ⟨0, rfl, rfl, HH.out, HB.out⟩
      case round =>
        obtain ⟨k, hkg, rfl, hh, hB⟩ := hrel
        have HKG := Lib.hid hkg
        have hk3 : k ≤ 3 := by omega
        clear hkg
        by_cases hlk : k < 3
        · have hp := three_lt ha hb hlt
          have hq := three_lt ha hb hlk
          have hc1 : wr.cell? ⟨w.heap.size, i, none⟩ = some (.int .i64 (three a b i)) := blk_cell hh (three_get hlt)
          have hc2 : wr.cell? ⟨w.heap.size, k, none⟩ = some (.int .i64 (three a b k)) := blk_cell hh (three_get hlk)
          have hx1 := arr3_index w.heap.size i hlt
          have hx2 := arr3_index w.heap.size k hlk
          have hsz : w.heap.size < wr.heap.size := (Array.getElem?_eq_some_iff.1 hh).1
          obtain ⟨p, hpe⟩ : ∃ p, three a b i = p := ⟨_, rfl⟩
          obtain ⟨q, hqe⟩ : ∃ q, three a b k = q := ⟨_, rfl⟩
          rw [hpe] at hp hc1
          rw [hqe] at hq hc2
          have hm := len_bd hp
          have hn := len_bd hq
          have HC1 := Lib.hid hc1
          have HC2 := Lib.hid hc2
          have HH2 := Lib.hid hh
          have HB2 := Lib.hid hB
          have HL1 := Lib.hid (lenZ_nat hp)
          have HL2 := Lib.hid (lenZ_nat hq)
          have HK1 := Lib.hid (codeZ_nat hp)
          have HK2 := Lib.hid (codeZ_nat hq)
          have HQ := Lib.hid (code_lt hq)
          have HPE := Lib.hid hpe
          have HQE := Lib.hid hqe
          obtain ⟨m, hme⟩ : ∃ m, len p = m := ⟨_, rfl⟩
          obtain ⟨n, hne⟩ : ∃ n, len q = n := ⟨_, rfl⟩
          have HM := Lib.hid hme
          have HN := Lib.hid hne
          rw [hme] at hm HL1
          rw [hne] at hn HL2 HQ
          have hcq : code q < 1073741824 := Nat.lt_of_lt_of_le HQ.out (Nat.pow_le_pow_right (by omega : 2 > 0) hn.2)
          obtain ⟨y, hye⟩ : ∃ y, code q = y := ⟨_, rfl⟩
          have HY := Lib.hid hye
          rw [hye] at hcq HK2 HQ
          clear hpe hqe hme hne hye hh hB
          go_wp2_with fail
          refine (Length_any _ _).mono ?_
          rintro e w' ⟨rfl, n1, rfl⟩
          rw [HL1.out]
          go_wp2_with fail
          refine (Length_any _ _).mono ?_
          rintro e w' ⟨rfl, n2, rfl⟩
          rw [HL2.out]
          go_wp2_with fail
          refine (Code_any _ _).mono ?_
          rintro e w3 ⟨rfl, hb3⟩
          rw [HK1.out]
          have HB3 := Lib.hid hb3
          have hc2 : w3.cell? ⟨w.heap.size, k, none⟩ = some (.int .i64 q) := (hb3.cell (p := ⟨w.heap.size, k, none⟩) (by exact hsz)).trans HC2.out
          clear hc1 hb3
          go_wp2_with fail
          refine (Code_any _ _).mono ?_
          rintro e w4 ⟨rfl, hb4⟩
          rw [HK2.out]
          have hgr : Below wr.heap.size wr w4 := (below_drewN (Below.refl wr.heap.size wr) _).trans (HB3.out.trans (hb4.mono HB3.out.size))
          have hc1 : w4.cell? ⟨w.heap.size, i, none⟩ = some (.int .i64 p) := (hgr.cell (p := ⟨w.heap.size, i, none⟩) hsz).trans HC1.out
          replace hc2 : w4.cell? ⟨w.heap.size, k, none⟩ = some (.int .i64 q) := (hgr.cell (p := ⟨w.heap.size, k, none⟩) hsz).trans HC2.out
          have HH4 := Lib.hid ((hgr.block _ hsz).trans HH2.out)
          have HB4 := Lib.hid (HB2.out.trans (hgr.mono HB2.out.size))
          clear hb4 hgr HB3
          go_wp2_with fail
          go_loop [11, 12] (fun s11 s12 => ∃ t : Nat, t ≤ n ∧ (m ≤ t ∨ t = n) ∧ s12 = .int .i64 t ∧ s11 = .int .i64 ((y / 2 ^ (n - t) : Nat) : Int)) (fun _ s12 => (intOf s12).toNat)
          case atStart => exact ⟨n, Nat.le_refl _, .inr rfl, rfl, by simp⟩
          case round =>
            obtain ⟨t, htn, hmt, rfl, rfl⟩ := hrel
            have hzy : y / 2 ^ (n - t) ≤ y := Nat.div_le_self _ _
            obtain ⟨z, hz⟩ : ∃ z, y / 2 ^ (n - t) = z := ⟨_, rfl⟩
            have HZ := Lib.hid hz
            rw [hz] at hzy ⊢
            clear hz
            by_cases hgt : m < t
            · have HMT := Lib.hid hmt
              clear hmt
              go_wp2_with fail
              go_round
              case rel =>
                refine ⟨t - 1, by omega, .inl (by omega), by go_num, ?_⟩
                rw [show n - (t - 1) = (n - t) + 1 by omega, Nat.pow_succ, ← Nat.div_div_eq_div_mul, HZ.out]
                go_num
              case measure => simp [intOf]; omega
            · have HPW : Hid (m ≤ n → z = y / 2 ^ (n - m)) := fun h => by
                rw [← HZ.out, show t = m by omega]
              obtain ⟨x, hx⟩ : ∃ x, code p = x := ⟨_, rfl⟩
              have HX := Lib.hid hx
              rw [hx]
              clear hx
              by_cases hmn : m ≤ n
              · have dmn : decide (m ≤ n) = true := decide_eq_true hmn
                by_cases hpq : p = q
                · have hmn2 : m = n := by rw [← HM.out, ← HN.out, hpq]
                  have hxz : x = z := by rw [HPW.out hmn, hmn2, Nat.sub_self, Nat.pow_zero, Nat.div_one, ← HX.out, ← HY.out, hpq]
                  have dlt : decide (m < n) = false := decide_eq_false (by omega)
                  have e1 : ((x : Int) == (z : Int)) = true := by rw [hxz]; simp
                  have e2 : ((p : Int) == (q : Int)) = true := by rw [hpq]; simp
                  have hlt2 : ¬ m < n := by omega
                  clear hmn2 hxz hpq hmt
                  go_wp2_with fail
                  go_quiet (fail)
                  go_wp2_with fail
                  go_roundg (3 - (k + 1))
                  case measure => have := HKG.out; omega
                  case rel => exact ⟨k + 1, by omega, by go_num, HH4.out, below_drewN HB4.out _⟩
                · have hne : Hid (x ≠ z) := fun he => hpq (by
                    refine begins hp hq (by rw [HM.out, HN.out]; exact hmn) ?_
                    rw [HX.out, HY.out, HM.out, HN.out, he, HPW.out hmn])
                  have hlg : Hid (m < n → x < z) := fun h => by
                    have := longer hp hq (by rw [HM.out, HN.out]; exact h)
                    rwa [HX.out, HY.out, HM.out, HN.out, ← HPW.out hmn] at this
                  have e1 : ((x : Int) == (z : Int)) = false := by rw [beq_eq_false_iff_ne]; have := hne.out; omega
                  have e2 : ((p : Int) == (q : Int)) = false := by rw [beq_eq_false_iff_ne]; omega
                  clear hpq hmt
                  by_cases hlt2 : m < n
                  · have dlt : decide (m < n) = true := decide_eq_true hlt2
                    have hge : decide (z ≤ x) = false := decide_eq_false (by have := hlg.out hlt2; omega)
                    have hge2 : ¬ z ≤ x := by have := hlg.out hlt2; omega
                    go_wp2_with fail
                    go_quiet (fail)
                    go_wp2_with fail
                    go_roundg (3 - (k + 1))
                    case measure => have := HKG.out; omega
                    case rel => exact ⟨k + 1, by omega, by go_num, HH4.out, below_drewN HB4.out _⟩
                  · have dlt : decide (m < n) = false := decide_eq_false hlt2
                    go_wp2_with fail
                    go_quiet (fail)
                    go_wp2_with fail
                    go_roundg (3 - (k + 1))
                    case measure => have := HKG.out; omega
                    case rel => exact ⟨k + 1, by omega, by go_num, HH4.out, below_drewN HB4.out _⟩
              · have dmn : decide (m ≤ n) = false := decide_eq_false hmn
                have dlt : decide (m < n) = false := decide_eq_false (by omega)
                have hlt2 : ¬ m < n := by omega
                clear hmt
                go_wp2_with fail
                go_quiet (fail)
                go_wp2_with fail
                go_roundg (3 - (k + 1))
                case measure => have := HKG.out; omega
                case rel => exact ⟨k + 1, by omega, by go_num, HH4.out, below_drewN HB4.out _⟩
        · obtain rfl : k = 3 := by omega
          have HH2 := Lib.hid hh
          have HB2 := Lib.hid hB
          clear hh hB
          go_wp2_with fail
          go_roundg (3 - (i + 1))
          case measure => have := HIG.out; omega
          case rel => exact ⟨i + 1, by omega, by go_num, HH2.out, HB2.out⟩
    · obtain rfl : i = 3 := by omega
      go_wp2_with (go_at_call 6; refine (alive04 _).mono ?_; rintro e w5 ⟨rfl, hb5⟩)
      go_ret
      exact ⟨rfl, HB.out.trans (hb5.mono HB.out.size)⟩
theorem codes4_int (a b : Int) (w : World) (ha : (Lit.int .u8 a).wf = true) (hb : (Lit.int .u8 b).wf = true) :
    Calls Try.prog 5 #[.int .u8 a, .int .u8 b] w fun e w' => e = .returned (.bool true) ∧ Below w.heap.size w w' := by
  have h1 := bounds_u8 ha
  have h2 := bounds_u8 hb
  obtain ⟨A, rfl⟩ := Int.eq_ofNat_of_zero_le h1.1
  obtain ⟨B, rfl⟩ := Int.eq_ofNat_of_zero_le h2.1
  exact codes4_any A B w (by omega) (by omega)
end Go.Proofs.Ytlmecnnednejmaa
