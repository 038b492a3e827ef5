
/-
  Layer 17's reference: Has, Less, Ints.
-/
import Derived.Test.YtcompnndnelamaaStrmMath
import Derived.Test.YtcompnndnelamaaBits
import Derived.Test.YtcompnndnelamaaAdr
import Derived.Test.YtcompnndnelamaaProg
import Derived.Deep.LoopGhost
import Derived.BigQuiet
import Derived.Deep.QuietTactic
namespace Go.Proofs.Ytcompnndnelamaa
set_option maxRecDepth 20000
open Go.RowKit

theorem Try.infoI17 : (Try.prog.info? 3).map (fun i => (i.zero, i.size, i.bytes)) = some (some (.int .i64 0), 1, 8) := by kernel_rfl
theorem has17_any (v : Value) (l : List Int) (n : Int) (w : World) (h : Sl .i64 w v l) :
    Calls Try.prog 18 #[v, .int .i64 n] w fun e w' => e = .returned (.bool (decide (n ∈ l))) ∧ w' = w := by
  have hml := h.len
  unfold maxLen at hml
  obtain ⟨a, c, rfl, _⟩ := id h
  obtain ⟨N, hN⟩ : ∃ N, N = l.length := ⟨_, rfl⟩
  rw [← hN] at h hml ⊢
  have HN := Lib.hid hN
  clear hN
  go_enter Try.func18, Try.ntmps18
  go_wp2_with fail
  go_loopg [5] N (fun q s5 wr => ∃ k : Nat, k + q = N ∧ s5 = .int .i64 k ∧ Hid (n ∉ l.take k) ∧ wr = w)
  case atStart => exact ⟨0, by omega, rfl, Lib.hid (by simp), rfl⟩
  case round =>
    obtain ⟨k, hkq, rfl, HL, rfl⟩ := hrel
    have HKQ := Lib.hid hkq
    have hk : k ≤ N := by omega
    clear hkq
    by_cases hlt : k < N
    · obtain ⟨b, off, rfl, hb, c0⟩ := h.adr k (by rw [← HN.out]; exact hlt)
      have hl : l.take (k + 1) = l.take k ++ [at0 l k] := take_at0 l k (by rw [← HN.out]; exact hlt)
      have hm : at0 l k ∈ l := at0_mem (by rw [← HN.out]; exact hlt)
      obtain ⟨y, hy⟩ : ∃ y, at0 l k = y := ⟨_, rfl⟩
      rw [hy] at hl c0 hm
      by_cases he : y = n
      · have d0 : (y == n) = true := by rw [beq_iff_eq]; exact he
        have HD := Lib.hid (show decide (n ∈ l) = true from decide_eq_true (he ▸ hm))
        clear he hl hy hm
        go_wp2_with fail
        go_ret
        exact ⟨by rw [HD.out]; rfl, rfl⟩
      · have d0 : (y == n) = false := by rw [beq_eq_false_iff_ne]; exact he
        have HE := Lib.hid (show n ∉ l.take (k + 1) by rw [hl, List.mem_append, List.mem_singleton]; exact fun e => e.elim HL.out (fun e => he e.symm))
        clear he hl hy hm
        go_wp2_with fail
        go_roundg (N - (k + 1))
        case measure => have := HKQ.out; omega
        case rel => exact ⟨k + 1, by omega, by go_num, HE, rfl⟩
    · obtain rfl : k = N := by omega
      have HD := Lib.hid (show decide (n ∈ l) = false from decide_eq_false (by have := HL.out; rwa [List.take_of_length_le (by rw [HN.out]; exact Nat.le_refl _)] at this))
      clear hlt hk
      go_wp2_with fail
      go_ret
      exact ⟨by rw [HD.out]; rfl, rfl⟩
theorem less17_any (v : Value) (l : List Int) (n : Int) (w : World) (h : Sl .i64 w v l) (hm : l.length ≤ 1000000) :
    Calls Try.prog 19 #[v, .int .i64 n] w fun e w' => ∃ u, e = .returned u ∧ w'.ownsRow w.heap.size 3 1 u (woutL l n).length ((woutL l n).map (Value.int .i64)) ∧ Below w.heap.size w w' := by
  obtain ⟨a, c, rfl, _⟩ := id h
  obtain ⟨N, hN⟩ : ∃ N, N = l.length := ⟨_, rfl⟩
  rw [← hN] at h hm ⊢
  have HN := Lib.hid hN
  have HS := Lib.hid h
  have HM := Lib.hid hm
  clear hN h
  have hml : N ≤ 9223372036854775807 := by omega
  go_enter Try.func19, Try.ntmps19
  go_wp2_with fail
  go_loopg [5, 6] N (fun q s5 s6 wr => ∃ k : Nat, k + q = N ∧ s6 = .int .i64 k ∧ ∃ u, s5 = u ∧ Hid (wr.ownsRow w.heap.size 3 1 u (woutL (l.take k) n).length ((woutL (l.take k) n).map (Value.int .i64)) ∧ Below w.heap.size w wr))
  case atStart => exact ⟨0, by omega, rfl, _, rfl, Lib.hid ⟨World.ownsRow_nil _ _ _ _, Below.refl _ _⟩⟩
  case round =>
    obtain ⟨k, hkq, rfl, u, rfl, HW⟩ := hrel
    have HKQ := Lib.hid hkq
    have hk : k ≤ N := by omega
    clear hkq
    obtain ⟨au, cu, hu, _⟩ := owned_shape HW.out.1
    obtain ⟨XS, hXS⟩ : ∃ XS, woutL (l.take k) n = XS := ⟨_, rfl⟩
    have HX := Lib.hid (show XS.length ≤ k by rw [← hXS]; exact Nat.le_trans (woutL_le _ _) (by rw [List.length_take]; omega))
    have HXS := Lib.hid hXS
    rw [hXS] at HW hu
    subst hu
    clear hXS
    by_cases hlt : k < N
    · obtain ⟨b, off, rfl, hb, c0⟩ := (HS.out.below HW.out.2).adr k (by rw [← HN.out]; exact hlt)
      have hl : l.take (k + 1) = l.take k ++ [at0 l k] := take_at0 l k (by rw [← HN.out]; exact hlt)
      have hf := HS.out.fit.at0 k
      obtain ⟨y, hy⟩ : ∃ y, at0 l k = y := ⟨_, rfl⟩
      rw [hy] at hl c0 hf
      by_cases he : y = n
      · have d0 : (y != n) = false := by simp [he]
        have HE := Lib.hid (show woutL (l.take (k + 1)) n = XS by rw [hl, ← HXS.out]; simp [woutL, he])
        clear he hl hy hf
        go_wp2_with fail
        go_roundg (N - (k + 1))
        case measure => have := HKQ.out; omega
        case rel => exact ⟨k + 1, by omega, by go_num, _, rfl, Lib.hid (by rw [HE.out]; exact HW.out)⟩
      · have d0 : (y != n) = true := by simp [he]
        have HE := Lib.hid (show woutL (l.take (k + 1)) n = XS ++ [y] by rw [hl, ← HXS.out]; simp [woutL, he])
        have HF := Lib.hid hf
        clear he hl hy hf
        obtain ⟨W1, hW1⟩ : ∃ W1, wr.alloc (.cells #[.int .i64 y] 3) = W1 := ⟨_, rfl⟩
        have HB1 := Lib.hid (show Below wr.heap.size wr W1 ∧ Sl .i64 W1 (.slice (some ⟨wr.heap.size, 0, none⟩) 1 1) [y] from by
          rw [← hW1]
          exact ⟨(Below.refl _ _).alloc (Nat.le_refl _) _, Sl.lit' [y] rfl rfl rfl (by intro z hz; rw [List.mem_singleton] at hz; rw [hz]; exact HF.out) (by unfold maxLen; simp)⟩)
        go_wp2_with (at_builtin; refine app_ints rfl (.tmp 19) (.tmp 24) 36 rfl w.heap.size 3 .i64 8 Try.underlying36 Try.infoI17 _ _ XS rfl (owned_below HW.out.1 HB1.out.1) _ [y] rfl HB1.out.2 (by have := HX.out; simp; omega) (by have := HX.out; unfold maxLen; simp; omega) (Nat.le_trans HW.out.2.size HB1.out.1.size) ?_; intro v2 w3 hO3 hb3 hg3; have HO3 := Lib.hid (And.intro hO3 hb3); clear hO3 hb3 hg3)
        go_roundg (N - (k + 1))
        case measure => have := HKQ.out; omega
        case rel => exact ⟨k + 1, by omega, by go_num, _, rfl, Lib.hid (by rw [HE.out, List.length_append]; exact ⟨HO3.out.1, (HW.out.2.trans (HB1.out.1.mono HW.out.2.size)).trans HO3.out.2⟩)⟩
    · obtain rfl : k = N := by omega
      have HE := Lib.hid (show woutL l n = XS by rw [← HXS.out, List.take_of_length_le (by rw [HN.out]; exact Nat.le_refl _)])
      clear hlt hk
      go_wp2_with fail
      go_ret
      exact ⟨_, rfl, by rw [HE.out]; exact HW.out.1, HW.out.2⟩
theorem ints17_any (u v : Value) (xs ys : List Int) (w : World) (hu : Sl .i64 w u xs) (hv : Sl .i64 w v ys) :
    Calls Try.prog 12 #[u, v] w fun e w' => e = .returned (.bool (decide (xs = ys))) ∧ ∃ n, w' = w.drewN n := by
  have hmx := hu.len
  have hmy := hv.len
  unfold maxLen at hmx hmy
  by_cases hl : xs.length = ys.length
  · rcases hu.parts with ⟨rfl, a, cap, rfl⟩ | ⟨hp, b, off, cap, rfl, hlc, hcm, hb, hc⟩
    · obtain rfl : ys = [] := List.eq_nil_of_length_eq_zero (by simpa using hl.symm)
      obtain ⟨a2, cap2, rfl, _⟩ := hv
      clear hl hu
      go_enter Try.func12, Try.ntmps12
      go_wp2
      refine wp_loop_rounds 1 ?_
      rw [rounds_succ]
      go_wp2
      go_ret
      exact ⟨rfl, 0, rfl⟩
    · rcases hv.parts with ⟨rfl, _⟩ | ⟨hp2, b2, off2, cap2, rfl, hlc2, hcm2, hb2, hc2⟩
      · exact absurd hl (by rw [List.length_nil]; omega)
      · have hle : xs.length ≤ ys.length := by omega
        have hge : ys.length ≤ xs.length := by omega
        have hn : ((xs.length : Int) != (ys.length : Int)) = false := by simp; omega
        clear hl hu hv
        go_enter Try.func12, Try.ntmps12
        go_wp2
        clear hn
        go_loopw [5] (fun i wr => ∃ k n : Nat, k ≤ xs.length ∧ i = .int .i64 k ∧ Hid (xs.take k = ys.take k) ∧ wr = w.drewN n) (fun i _ => xs.length - (intOf i).toNat)
        case atStart => exact ⟨0, 0, Nat.zero_le _, rfl, rfl, rfl⟩
        case round =>
          obtain ⟨k, n, hk, rfl, HT, rfl⟩ := hrel
          by_cases hlt : k < xs.length
          · have hcx := hc k hlt
            have hcy := hc2 k (by omega)
            clear hc hc2
            by_cases hz : at0 xs k = at0 ys k
            · have hb : (at0 xs k != at0 ys k) = false := by simp [hz]
              have HZ := Lib.hid hz
              clear hz
              go_wp2
              go_quiet (fail)
              go_wp2
              go_roundw
              case rel => exact ⟨k + 1, _, by omega, by go_num, (by show _ = _; rw [take_at0 xs k hlt, take_at0 ys k (by omega), HT.out, HZ.out]), rfl⟩
              case measure => simp [intOf]; omega
            · have hb : (at0 xs k != at0 ys k) = true := by simp [hz]
              have hne : xs ≠ ys := fun e => hz (by rw [e])
              have HD := Lib.hid (decide_eq_false hne)
              clear hz hne
              go_wp2
              go_quiet (fail)
              go_wp2
              go_ret
              exact ⟨by rw [HD.out]; rfl, _, by first | rfl | exact World.drewN_drewN ..⟩
          · obtain rfl : k = xs.length := by omega
            have he : xs = ys := by
              have := HT.out
              rwa [List.take_length, List.take_of_length_le (by omega)] at this
            have HD := Lib.hid (decide_eq_true he)
            clear he
            go_wp2
            go_ret
            exact ⟨by rw [HD.out]; rfl, _, by first | rfl | exact World.drewN_drewN ..⟩
  · have hn : ((xs.length : Int) != (ys.length : Int)) = true := by simp; omega
    have hne : xs ≠ ys := fun e => hl (by rw [e])
    have HD := Lib.hid (decide_eq_false hne)
    clear hne hl
    obtain ⟨a, cap, rfl, _⟩ := hu
    obtain ⟨a2, cap2, rfl, _⟩ := hv
    go_enter Try.func12, Try.ntmps12
    go_wp2
    go_ret
    exact ⟨by rw [HD.out]; rfl, 0, rfl⟩
end Go.Proofs.Ytcompnndnelamaa
