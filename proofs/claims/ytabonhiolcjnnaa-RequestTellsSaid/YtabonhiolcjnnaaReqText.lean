
/-
  Layer 10's reference: token, Name, Value, number.
-/
import Derived.Test.YtabonhiolcjnnaaReqSmall
import Derived.Deep.LoopGhost
namespace Go.Proofs.Ytabonhiolcjnnaa
set_option maxRecDepth 20000
open Go.RowKit

theorem all_next {p : Int → Bool} {zs : List Int} {k : Nat} (h : (zs.take k).all p = true) (hk : k < zs.length) (hc : p (at0 zs k) = true) : (zs.take (k + 1)).all p = true := by
  rw [take_at0 zs k hk, List.all_append, h]; simp [hc]
theorem all_not {p : Int → Bool} {zs : List Int} {k : Nat} (hk : k < zs.length) (hc : p (at0 zs k) = false) : zs.all p = false := by
  rw [Bool.eq_false_iff]; intro h
  have := List.all_eq_true.1 h _ (at0_mem hk)
  rw [hc] at this; cases this
theorem edge_val {zs : List Int} (h : zs.all innC = true) (hp : 0 < zs.length) : valB zs = ((at0 zs 0 != 9) && (at0 zs 0 != 32) && (at0 zs (zs.length - 1) != 9) && (at0 zs (zs.length - 1) != 32)) := by
  unfold valB edgeC
  rw [h, decide_eq_false (fun e => by rw [e] at hp; simp at hp)]
  simp only [Bool.true_and, Bool.false_or, bne, Bool.not_or]
  cases at0 zs 0 == 9 <;> cases at0 zs 0 == 32 <;> simp
theorem sign_mid {c : Int} (h : 65 ≤ c ∧ c ≤ 90) : signB c = false := by
  unfold signB
  rw [Bool.eq_false_iff]
  intro x
  have := List.contains_iff_mem.1 x
  simp only [signs10, List.mem_cons, List.not_mem_nil, or_false] at this
  omega
set_option maxHeartbeats 2000000 in
theorem refToken_any (s : ByteArray) (low : Bool) (w : World) (hs : s.size ≤ 1000000) :
    Calls Try.prog 21 #[.string s, .bool low] w fun e w' => e = .returned (.bool (tokB low (nums s))) ∧ w' = w := by
  obtain ⟨N, hN⟩ : ∃ N, N = s.size := ⟨_, rfl⟩
  have HN := Lib.hid hN
  have hle : N ≤ 1000000 := by omega
  have hlen : ∀ W, (Builtin.len_ #[9] 3 #[.string s]).run Try.prog W = .ok (.int .i64 N) W := fun W => by
    rw [run_len_string W _ _ s Try.underlying9, HN.out]; rfl
  clear hs hN
  go_enter Try.func21, Try.ntmps21
  go_wp2_with fail
  go_loopg [5] N (fun g s5 wr => ∃ k : Nat, k + g = N ∧ s5 = .int .i64 k ∧ Hid (((nums s).take k).all (tokC low) = true) ∧ wr = w)
  case atStart => exact ⟨0, by omega, rfl, Lib.hid rfl, rfl⟩
  case round =>
    obtain ⟨k, hkg, rfl, HT, rfl⟩ := hrel
    have HKG := Lib.hid hkg
    have hk : k ≤ N := by omega
    clear hkg
    by_cases hlt : k < N
    · have hix := str_at (P := Try.prog) (t := 9) Try.underlying9 s (k := k) (by rw [← HN.out]; exact hlt)
      have HY : Hid (tokC low (at0 (nums s) k) = true → ((nums s).take (k + 1)).all (tokC low) = true) := fun h => all_next HT.out (by rw [nums_length, ← HN.out]; exact hlt) h
      have HZ : Hid (tokC low (at0 (nums s) k) = false → tokB low (nums s) = false) := fun h => by
        unfold tokB; rw [all_not (by rw [nums_length, ← HN.out]; exact hlt) h]; rfl
      obtain ⟨c, hc⟩ : ∃ c, at0 (nums s) k = c := ⟨_, rfl⟩
      rw [hc] at hix HY HZ
      clear hc
      have cls : (decide (65 ≤ c) = false ∧ decide (97 ≤ c) = false ∧ tokC low c = (figB c || signB c)) ∨
          (decide (65 ≤ c) = true ∧ decide (c ≤ 90) = true ∧ decide (97 ≤ c) = false ∧ tokC low c = !low ∧ figB c = false ∧ signB c = false) ∨
          (decide (65 ≤ c) = true ∧ decide (c ≤ 90) = false ∧ decide (97 ≤ c) = false ∧ tokC low c = signB c ∧ figB c = false) ∨
          (decide (65 ≤ c) = true ∧ decide (c ≤ 90) = false ∧ decide (97 ≤ c) = true ∧ decide (c ≤ 122) = true ∧ tokC low c = true) ∨
          (decide (65 ≤ c) = true ∧ decide (c ≤ 90) = false ∧ decide (97 ≤ c) = true ∧ decide (c ≤ 122) = false ∧ tokC low c = signB c ∧ figB c = false) := by
        unfold tokC
        have hf : 58 ≤ c → figB c = false := fun h => by unfold figB; rw [decide_eq_false_iff_not]; omega
        by_cases h1 : 65 ≤ c
        · by_cases h2 : c ≤ 90
          · have h3 : ¬ 97 ≤ c := by omega
            have h4 : ¬ (97 ≤ c ∧ c ≤ 122) := by omega
            refine .inr (.inl ⟨decide_eq_true h1, decide_eq_true h2, decide_eq_false h3, ?_, hf (by omega), sign_mid ⟨h1, h2⟩⟩)
            rw [decide_eq_false h4, decide_eq_true (And.intro h1 h2), hf (by omega), sign_mid ⟨h1, h2⟩]; simp
          · by_cases h3 : 97 ≤ c
            · by_cases h4 : c ≤ 122
              · refine .inr (.inr (.inr (.inl ⟨decide_eq_true h1, decide_eq_false h2, decide_eq_true h3, decide_eq_true h4, ?_⟩)))
                rw [decide_eq_true (And.intro h3 h4)]; rfl
              · have h5 : ¬ (97 ≤ c ∧ c ≤ 122) := by omega
                have h6 : ¬ (65 ≤ c ∧ c ≤ 90) := by omega
                refine .inr (.inr (.inr (.inr ⟨decide_eq_true h1, decide_eq_false h2, decide_eq_true h3, decide_eq_false h4, ?_, hf (by omega)⟩)))
                rw [decide_eq_false h5, decide_eq_false h6, hf (by omega)]; rfl
            · have h5 : ¬ (97 ≤ c ∧ c ≤ 122) := by omega
              have h6 : ¬ (65 ≤ c ∧ c ≤ 90) := by omega
              refine .inr (.inr (.inl ⟨decide_eq_true h1, decide_eq_false h2, decide_eq_false h3, ?_, hf (by omega)⟩))
              rw [decide_eq_false h5, decide_eq_false h6, hf (by omega)]; rfl
        · have h3 : ¬ 97 ≤ c := by omega
          have h5 : ¬ (97 ≤ c ∧ c ≤ 122) := by omega
          have h6 : ¬ (65 ≤ c ∧ c ≤ 90) := by omega
          refine .inl ⟨decide_eq_false h1, decide_eq_false h3, ?_⟩
          rw [decide_eq_false h5, decide_eq_false h6]; rfl
      obtain ⟨f, hf⟩ : ∃ f, figB c = f := ⟨_, rfl⟩
      obtain ⟨g, hg⟩ : ∃ g, signB c = g := ⟨_, rfl⟩
      obtain ⟨t, ht⟩ : ∃ t, tokC low c = t := ⟨_, rfl⟩
      rw [hf, hg, ht] at cls
      rw [ht] at HY HZ
      have HF := Lib.hid hf
      have HG := Lib.hid hg
      clear hf hg ht
      rcases cls with ⟨d1, d2, rfl⟩ | ⟨d1, d2, d3, rfl, rfl, rfl⟩ | ⟨d1, d2, d3, rfl, rfl⟩ | ⟨d1, d2, d3, d4, rfl⟩ | ⟨d1, d2, d3, d4, rfl, rfl⟩
      · cases f
        · cases g
          · go_wp2_with fail
            refine (refFigure_any _ _).mono ?_
            rintro e w1 ⟨rfl, rfl⟩
            rw [HF.out]
            go_wp2_with fail
            refine (refSign_any _ _).mono ?_
            rintro e w1 ⟨rfl, rfl⟩
            rw [HG.out]
            go_wp2_with fail
            go_ret
            exact ⟨by rw [HZ.out (by trivial)]; rfl, rfl⟩
          · go_wp2_with fail
            refine (refFigure_any _ _).mono ?_
            rintro e w1 ⟨rfl, rfl⟩
            rw [HF.out]
            go_wp2_with fail
            refine (refSign_any _ _).mono ?_
            rintro e w1 ⟨rfl, rfl⟩
            rw [HG.out]
            go_wp2_with fail
            go_roundg (N - (k + 1))
            case measure => have := HKG.out; omega
            case rel => exact ⟨k + 1, by omega, by go_num, HY.out (by trivial), rfl⟩
        · go_wp2_with fail
          refine (refFigure_any _ _).mono ?_
          rintro e w1 ⟨rfl, rfl⟩
          rw [HF.out]
          go_wp2_with fail
          go_roundg (N - (k + 1))
          case measure => have := HKG.out; omega
          case rel => exact ⟨k + 1, by omega, by go_num, HY.out (by trivial), rfl⟩
      · cases low
        · go_wp2_with fail
          go_roundg (N - (k + 1))
          case measure => have := HKG.out; omega
          case rel => exact ⟨k + 1, by omega, by go_num, HY.out (by trivial), rfl⟩
        · go_wp2_with fail
          refine (refFigure_any _ _).mono ?_
          rintro e w1 ⟨rfl, rfl⟩
          rw [HF.out]
          go_wp2_with fail
          refine (refSign_any _ _).mono ?_
          rintro e w1 ⟨rfl, rfl⟩
          rw [HG.out]
          go_wp2_with fail
          go_ret
          exact ⟨by rw [HZ.out (by trivial)]; rfl, rfl⟩
      · cases t
        · go_wp2_with fail
          refine (refFigure_any _ _).mono ?_
          rintro e w1 ⟨rfl, rfl⟩
          rw [HF.out]
          go_wp2_with fail
          refine (refSign_any _ _).mono ?_
          rintro e w1 ⟨rfl, rfl⟩
          rw [HG.out]
          go_wp2_with fail
          go_ret
          exact ⟨by rw [HZ.out (by trivial)]; rfl, rfl⟩
        · go_wp2_with fail
          refine (refFigure_any _ _).mono ?_
          rintro e w1 ⟨rfl, rfl⟩
          rw [HF.out]
          go_wp2_with fail
          refine (refSign_any _ _).mono ?_
          rintro e w1 ⟨rfl, rfl⟩
          rw [HG.out]
          go_wp2_with fail
          go_roundg (N - (k + 1))
          case measure => have := HKG.out; omega
          case rel => exact ⟨k + 1, by omega, by go_num, HY.out (by trivial), rfl⟩
      · go_wp2_with fail
        go_roundg (N - (k + 1))
        case measure => have := HKG.out; omega
        case rel => exact ⟨k + 1, by omega, by go_num, HY.out (by trivial), rfl⟩
      · cases t
        · go_wp2_with fail
          refine (refFigure_any _ _).mono ?_
          rintro e w1 ⟨rfl, rfl⟩
          rw [HF.out]
          go_wp2_with fail
          refine (refSign_any _ _).mono ?_
          rintro e w1 ⟨rfl, rfl⟩
          rw [HG.out]
          go_wp2_with fail
          go_ret
          exact ⟨by rw [HZ.out (by trivial)]; rfl, rfl⟩
        · go_wp2_with fail
          refine (refFigure_any _ _).mono ?_
          rintro e w1 ⟨rfl, rfl⟩
          rw [HF.out]
          go_wp2_with fail
          refine (refSign_any _ _).mono ?_
          rintro e w1 ⟨rfl, rfl⟩
          rw [HG.out]
          go_wp2_with fail
          go_roundg (N - (k + 1))
          case measure => have := HKG.out; omega
          case rel => exact ⟨k + 1, by omega, by go_num, HY.out (by trivial), rfl⟩
    · obtain rfl : k = N := by omega
      have HZ := Lib.hid (show tokB low (nums s) = decide (0 < k) by
        have h := HT.out
        rw [List.take_of_length_le (by rw [nums_length, ← HN.out]; exact Nat.le_refl _)] at h
        unfold tokB
        rw [h, Bool.true_and, decide_eq_decide, ← List.length_pos_iff, nums_length, ← HN.out])
      clear hlt hk
      go_wp2_with fail
      go_ret
      exact ⟨by rw [HZ.out]; rfl, rfl⟩
theorem refName_any (s : ByteArray) (w : World) (hs : s.size ≤ 1000000) :
    Calls Try.prog 7 #[.string s] w fun e w' => e = .returned (.bool (tokB true (nums s))) ∧ w' = w := by
  have HS := Lib.hid hs
  clear hs
  go_enter Try.func7, Try.ntmps7
  go_wp2_with fail
  refine (refToken_any _ _ _ HS.out).mono ?_
  rintro e w1 ⟨rfl, rfl⟩
  go_wp2_with fail
  go_ret
  exact ⟨rfl, rfl⟩
theorem figN_take {zs : List Int} {k : Nat} (h : k < zs.length) : figN 0 (zs.take (k + 1)) = 10 * figN 0 (zs.take k) + (at0 zs k - 48) := by rw [take_at0 zs k h, figN_append]
set_option maxHeartbeats 2000000 in
theorem refNumber_any (s : ByteArray) (w : World) (hs : s.size ≤ 1000000) :
    Calls Try.prog 29 #[.string s] w fun e w' => e = .returned (.int .i64 (numB (nums s))) ∧ w' = w := by
  obtain ⟨N, hN⟩ : ∃ N, N = s.size := ⟨_, rfl⟩
  have HN := Lib.hid hN
  have hle : N ≤ 1000000 := by omega
  have hlen : ∀ W, (Builtin.len_ #[9] 3 #[.string s]).run Try.prog W = .ok (.int .i64 N) W := fun W => by
    rw [run_len_string W _ _ s Try.underlying9, HN.out]; rfl
  clear hs hN
  by_cases h1 : N < 1
  · have d1 : decide ((N : Int) < 1) = true := decide_eq_true (by omega)
    have HZ := Lib.hid (show numB (nums s) = -1 by unfold numB; rw [if_neg (by rw [nums_length, ← HN.out]; omega)])
    clear h1
    go_enter Try.func29, Try.ntmps29
    go_wp2_with fail
    go_ret
    exact ⟨by rw [HZ.out]; rfl, rfl⟩
  by_cases h2 : 15 < N
  · have d1 : decide ((N : Int) < 1) = false := decide_eq_false (by omega)
    have d2 : decide ((15 : Int) < (N : Int)) = true := decide_eq_true (by omega)
    have HZ := Lib.hid (show numB (nums s) = -1 by unfold numB; rw [if_neg (by rw [nums_length, ← HN.out]; omega)])
    clear h1 h2
    go_enter Try.func29, Try.ntmps29
    go_wp2_with fail
    go_ret
    exact ⟨by rw [HZ.out]; rfl, rfl⟩
  have d1 : decide ((N : Int) < 1) = false := decide_eq_false (by omega)
  have d2 : decide ((15 : Int) < (N : Int)) = false := decide_eq_false (by omega)
  have HR := Lib.hid (show 1 ≤ N ∧ N ≤ 15 by omega)
  clear h1 h2
  go_enter Try.func29, Try.ntmps29
  go_wp2_with fail
  go_loopg [3, 4] N (fun g s3 s4 wr => ∃ k : Nat, k + g = N ∧ s4 = .int .i64 k ∧ s3 = .int .i64 (figN 0 ((nums s).take k)) ∧ Hid (((nums s).take k).all figB = true) ∧ wr = w)
  case atStart => exact ⟨0, by omega, rfl, rfl, Lib.hid rfl, rfl⟩
  case round =>
    obtain ⟨k, hkg, rfl, rfl, HT, rfl⟩ := hrel
    have HKG := Lib.hid hkg
    have hk : k ≤ N := by omega
    clear hkg
    by_cases hlt : k < N
    · have hix := str_at (P := Try.prog) (t := 9) Try.underlying9 s (k := k) (by rw [← HN.out]; exact hlt)
      have hrg := figN_range _ 0 HT.out (by omega)
      have hp : (10 : Int) ^ ((nums s).take k).length ≤ 10 ^ 14 := by
        have h : (10 : Nat) ^ ((nums s).take k).length ≤ 10 ^ 14 := Nat.pow_le_pow_right (by decide) (by rw [List.length_take]; have := HR.out; omega)
        exact_mod_cast h
      have HY := Lib.hid (show figB (at0 (nums s) k) = true → ((nums s).take (k + 1)).all figB = true ∧ figN 0 ((nums s).take (k + 1)) = 10 * figN 0 ((nums s).take k) + (at0 (nums s) k - 48) from fun h =>
        ⟨all_next HT.out (by rw [nums_length, ← HN.out]; exact hlt) h, figN_take (by rw [nums_length, ← HN.out]; exact hlt)⟩)
      have HZ : Hid (figB (at0 (nums s) k) = false → numB (nums s) = -1) := fun h => by
        unfold numB
        rw [if_neg]
        rintro ⟨_, _, h3⟩
        rw [all_not (by rw [nums_length, ← HN.out]; exact hlt) h] at h3
        cases h3
      have hmn : 0 ≤ figN 0 ((nums s).take k) ∧ figN 0 ((nums s).take k) < 100000000000000 := ⟨hrg.1, by omega⟩
      clear hrg hp
      obtain ⟨m, hm⟩ : ∃ m, figN 0 ((nums s).take k) = m := ⟨_, rfl⟩
      rw [hm] at hmn HY ⊢
      clear hm
      obtain ⟨c, hc⟩ : ∃ c, at0 (nums s) k = c := ⟨_, rfl⟩
      rw [hc] at hix HY HZ
      clear hc
      obtain ⟨f, hf⟩ : ∃ f, figB c = f := ⟨_, rfl⟩
      rw [hf] at HY HZ
      have HF := Lib.hid hf
      cases f
      · clear hf
        go_wp2_with fail
        refine (refFigure_any _ _).mono ?_
        rintro e w1 ⟨rfl, rfl⟩
        rw [HF.out]
        go_wp2_with fail
        go_ret
        exact ⟨by rw [HZ.out (by trivial)]; rfl, rfl⟩
      · have hc := of_decide_eq_true hf
        clear hf
        go_wp2_with fail
        refine (refFigure_any _ _).mono ?_
        rintro e w1 ⟨rfl, rfl⟩
        rw [HF.out]
        go_wp2_with fail
        go_roundg (N - (k + 1))
        case measure => have := HKG.out; omega
        case rel => exact ⟨k + 1, by omega, by go_num, by rw [(HY.out (by trivial)).2], (HY.out (by trivial)).1, rfl⟩
    · obtain rfl : k = N := by omega
      have HZ := Lib.hid (show figN 0 ((nums s).take k) = numB (nums s) by
        have h := HT.out
        have e : (nums s).take k = nums s := List.take_of_length_le (by rw [nums_length, ← HN.out]; exact Nat.le_refl _)
        rw [e] at h ⊢
        unfold numB
        rw [if_pos ⟨by rw [nums_length, ← HN.out]; exact HR.out.1, by rw [nums_length, ← HN.out]; exact HR.out.2, h⟩])
      rw [HZ.out]
      clear hlt hk
      go_wp2_with fail
      go_ret
      exact ⟨rfl, rfl⟩
set_option maxHeartbeats 2000000 in
theorem refValue_any (s : ByteArray) (w : World) (hs : s.size ≤ 1000000) :
    Calls Try.prog 9 #[.string s] w fun e w' => e = .returned (.bool (valB (nums s))) ∧ w' = w := by
  obtain ⟨N, hN⟩ : ∃ N, N = s.size := ⟨_, rfl⟩
  have HN := Lib.hid hN
  have hle : N ≤ 1000000 := by omega
  have hlen : ∀ W, (Builtin.len_ #[9] 3 #[.string s]).run Try.prog W = .ok (.int .i64 N) W := fun W => by
    rw [run_len_string W _ _ s Try.underlying9, HN.out]; rfl
  clear hs hN
  go_enter Try.func9, Try.ntmps9
  go_wp2_with fail
  go_loopg [4] N (fun g s4 wr => ∃ k : Nat, k + g = N ∧ s4 = .int .i64 k ∧ Hid (((nums s).take k).all innC = true) ∧ wr = w)
  case atStart => exact ⟨0, by omega, rfl, Lib.hid rfl, rfl⟩
  case round =>
    obtain ⟨k, hkg, rfl, HT, rfl⟩ := hrel
    have HKG := Lib.hid hkg
    have hk : k ≤ N := by omega
    clear hkg
    by_cases hlt : k < N
    · have hix := str_at (P := Try.prog) (t := 9) Try.underlying9 s (k := k) (by rw [← HN.out]; exact hlt)
      have HY : Hid (innC (at0 (nums s) k) = true → ((nums s).take (k + 1)).all innC = true) := fun h => all_next HT.out (by rw [nums_length, ← HN.out]; exact hlt) h
      have HZ : Hid (innC (at0 (nums s) k) = false → valB (nums s) = false) := fun h => by
        unfold valB; rw [all_not (by rw [nums_length, ← HN.out]; exact hlt) h]; rfl
      obtain ⟨c, hc⟩ : ∃ c, at0 (nums s) k = c := ⟨_, rfl⟩
      rw [hc] at hix HY HZ
      clear hc
      unfold innC at HY HZ
      obtain ⟨a0, e0⟩ : ∃ a, (c == 0) = a := ⟨_, rfl⟩
      obtain ⟨a1, e1⟩ : ∃ a, (c == 10) = a := ⟨_, rfl⟩
      obtain ⟨a2, e2⟩ : ∃ a, (c == 13) = a := ⟨_, rfl⟩
      rw [e0, e1, e2] at HY HZ
      cases a0
      · cases a1
        · cases a2
          · go_wp2_with fail
            go_roundg (N - (k + 1))
            case measure => have := HKG.out; omega
            case rel => exact ⟨k + 1, by omega, by go_num, HY.out (by rfl), rfl⟩
          · go_wp2_with fail
            go_ret
            exact ⟨by rw [HZ.out (by rfl)]; rfl, rfl⟩
        · go_wp2_with fail
          go_ret
          exact ⟨by rw [HZ.out (by rfl)]; rfl, rfl⟩
      · go_wp2_with fail
        go_ret
        exact ⟨by rw [HZ.out (by rfl)]; rfl, rfl⟩
    · obtain rfl : k = N := by omega
      have HA := Lib.hid (show (nums s).all innC = true by
        have h := HT.out
        rwa [List.take_of_length_le (by rw [nums_length, ← HN.out]; exact Nat.le_refl _)] at h)
      by_cases h0 : k = 0
      · have HZ := Lib.hid (show valB (nums s) = true by
          have : nums s = [] := List.length_eq_zero_iff.1 (by rw [nums_length, ← HN.out]; exact h0)
          rw [this]; rfl)
        have d0 : ((k : Int) == 0) = true := by rw [beq_iff_eq]; omega
        clear hlt hk h0
        go_wp2_with fail
        go_ret
        exact ⟨by rw [HZ.out]; rfl, rfl⟩
      · have d0 : ((k : Int) == 0) = false := by rw [beq_eq_false_iff_ne]; omega
        have HP := Lib.hid (Nat.pos_of_ne_zero h0)
        have hi0 : ∀ (q : IntKind) (W : World), (Instr.index 9 (.string s) (.int q (0 : Int))).run Try.prog W = .ok (.int .u8 (at0 (nums s) 0)) W := str_at (P := Try.prog) (t := 9) Try.underlying9 s (k := 0) (by rw [← HN.out]; exact HP.out)
        have hi1 := str_at (P := Try.prog) (t := 9) Try.underlying9 s (k := k - 1) (by rw [← HN.out]; have := HP.out; omega)
        have hE := edge_val (zs := nums s) HA.out (by rw [nums_length, ← HN.out]; exact HP.out)
        rw [nums_length, ← HN.out] at hE
        obtain ⟨a, ha⟩ : ∃ a, at0 (nums s) 0 = a := ⟨_, rfl⟩
        obtain ⟨b, hb⟩ : ∃ b, at0 (nums s) (k - 1) = b := ⟨_, rfl⟩
        rw [ha] at hi0 hE
        rw [hb] at hi1 hE
        rw [show ((k - 1 : Nat) : Int) = (k : Int) - 1 by have := HP.out; omega] at hi1
        have HE := Lib.hid hE
        have hk1 : 1 ≤ k := HP.out
        clear ha hb hE hlt h0
        obtain ⟨a0, e0⟩ : ∃ x, (a != 9) = x := ⟨_, rfl⟩
        obtain ⟨a1, e1⟩ : ∃ x, (a != 32) = x := ⟨_, rfl⟩
        obtain ⟨a2, e2⟩ : ∃ x, (b != 9) = x := ⟨_, rfl⟩
        rw [e0, e1, e2] at HE
        cases a0
        · go_wp2_with fail
          go_ret
          exact ⟨by rw [HE.out]; rfl, rfl⟩
        cases a1
        · go_wp2_with fail
          go_ret
          exact ⟨by rw [HE.out]; rfl, rfl⟩
        cases a2
        · go_wp2_with fail
          go_ret
          exact ⟨by rw [HE.out]; rfl, rfl⟩
        go_wp2_with fail
        go_ret
        exact ⟨by rw [HE.out]; rfl, rfl⟩
end Go.Proofs.Ytabonhiolcjnnaa
