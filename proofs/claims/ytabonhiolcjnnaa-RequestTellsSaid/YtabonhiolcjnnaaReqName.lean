
/-
  Layer 10, the program's own: isToken, Name, Value, number, isStatus.
-/
import Derived.Test.YtabonhiolcjnnaaReqSign
namespace Go.Proofs.Ytabonhiolcjnnaa
set_option maxRecDepth 20000
open Go.RowKit

theorem not_tok_high {s : ByteArray} {k : Nat} (hk : k < s.size) (h : 128 ≤ at0 (nums s) k) (b : Bool) : tokB b (nums s) = false := by
  unfold tokB
  rw [all_not (by rw [nums_length]; exact hk) (high_tok h b)]; rfl
set_option maxHeartbeats 1000000 in
theorem isToken_any (s : ByteArray) (w : World) (hs : s.size ≤ 1000000) :
    Calls Try.prog 20 #[.string s] w fun e w' => e = .returned (.bool (tokB false (nums s))) ∧ Below w.heap.size w w' := by
  obtain ⟨N, hN⟩ : ∃ N, N = s.size := ⟨_, rfl⟩
  have HN := Lib.hid hN
  have hle : N ≤ 1000000 := by omega
  have HV := Lib.hid (show decide (0 < N) = !s.toList.isEmpty by
    rw [hN, ← nums_length]
    have : s.toList.isEmpty = (nums s).isEmpty := by
      rw [Bool.eq_iff_iff, List.isEmpty_iff, List.isEmpty_iff, Lib.toList_data, nums, List.map_eq_nil_iff]
    rw [this]
    cases nums s <;> simp)
  clear hs hN
  go_enter Try.func20, Try.ntmps20
  go_wp2_with fail
  go_loopg [4] N (fun g _ wr => ∃ k : Nat, k + g = N ∧ Hid (((nums s).take k).all (tokC false) = true) ∧ wr = w.iter s k)
  case atStart => exact ⟨0, by omega, Lib.hid rfl, rfl⟩
  case round =>
    obtain ⟨k, hkg, HT, rfl⟩ := hrel
    have HKG := Lib.hid hkg
    have hk : k ≤ N := by omega
    clear hkg
    by_cases hlt : k < N
    · obtain ⟨c, n, hn1, hn2, hc0, hc1, hcc, hnx⟩ := rune_step s k (by rw [← HN.out]; exact hlt)
      have hnx2 := hnx Try.prog
      have HC := Lib.hid hc0
      rcases hcc with ⟨hcl, rfl, hcv⟩ | ⟨hch, hcv⟩
      · have HL := Lib.hid hcl
        obtain ⟨t, ht⟩ : ∃ t, tokC false c = t := ⟨_, rfl⟩
        have HTT := Lib.hid ht
        have HY : Hid (t = true → ((nums s).take (k + 1)).all (tokC false) = true) := fun h => all_next HT.out (by rw [nums_length, ← HN.out]; exact hlt) (by rw [hcv, ht, h])
        have HZ : Hid (t = false → tokB false (nums s) = false) := fun h => by
          unfold tokB; rw [all_not (by rw [nums_length, ← HN.out]; exact hlt) (by rw [hcv, ht, h])]; rfl
        clear hn1 hn2 hc0 hc1 hcl hcv hnx ht
        go_wp2_with fail
        refine (ofTok_low _ _ HC.out HL.out).mono ?_
        rintro e w1 ⟨rfl, rfl⟩
        rw [HTT.out]
        cases t
        · go_wp2_with fail
          go_ret
          exact ⟨by rw [HZ.out (by trivial)]; rfl, iter_below _ _ _⟩
        · go_wp2_with fail
          go_roundg (N - (k + 1))
          case measure => have := HKG.out; omega
          case rel => exact ⟨k + 1, by omega, HY.out (by trivial), rfl⟩
      · have HL := Lib.hid hch
        have HZ : Hid (tokB false (nums s) = false) := by
          have := hcv 0 (by omega)
          rw [Nat.add_zero] at this
          exact Lib.hid (not_tok_high (by rw [← HN.out]; exact hlt) this false)
        clear hn1 hn2 hc0 hc1 hch hcv hnx
        go_wp2_with fail
        refine (ofTok_high _ _ HL.out).mono ?_
        rintro e w1 ⟨rfl, hb⟩
        have HB := Lib.hid ((iter_below w s (k + n)).trans (hb.mono (iter_below w s (k + n)).size))
        clear hb
        go_wp2_with fail
        go_ret
        exact ⟨by rw [HZ.out]; rfl, HB.out⟩
    · obtain rfl : k = N := by omega
      have HZ := Lib.hid (show tokB false (nums s) = decide (0 < k) by
        have h := HT.out
        rw [List.take_of_length_le (by rw [nums_length, ← HN.out]; exact Nat.le_refl _)] at h
        unfold tokB
        rw [h, Bool.true_and, decide_eq_decide, ← List.length_pos_iff, nums_length, ← HN.out])
      have hnx := run_next_end (P := Try.prog) w s k
      have hnl : ¬ k < s.size := by rw [← HN.out]; exact Nat.lt_irrefl _
      clear hlt hk
      go_wp2_with fail
      go_ret
      exact ⟨by rw [HZ.out, HV.out]; rfl, iter_below _ _ _⟩
def capC (c : Int) : Bool := decide (65 ≤ c ∧ c ≤ 90)
theorem cap_tok {c : Int} (h : capC c = true) : tokC true c = false := by
  have h := of_decide_eq_true h
  unfold tokC
  rw [decide_eq_false (show ¬ (97 ≤ c ∧ c ≤ 122) by omega), sign_mid h, show figB c = false by unfold figB; rw [decide_eq_false_iff_not]; omega]
  simp
theorem nocap_tok {c : Int} (h : capC c = false) : tokC true c = tokC false c := by
  unfold tokC
  rw [show decide (65 ≤ c ∧ c ≤ 90) = false from h]
  simp
theorem nocap_all {zs : List Int} (h : ∀ j, j < zs.length → capC (at0 zs j) = false) : tokB true zs = tokB false zs := by
  unfold tokB
  congr 1
  rw [Bool.eq_iff_iff, List.all_eq_true, List.all_eq_true]
  have hx : ∀ x ∈ zs, capC x = false := fun x hx => by
    obtain ⟨j, hj, rfl⟩ := List.mem_iff_getElem.1 hx
    have := h j hj
    rwa [show at0 zs j = zs[j] by simp [at0, hj]] at this
  exact ⟨fun g x hm => by rw [← nocap_tok (hx x hm)]; exact g x hm, fun g x hm => by rw [nocap_tok (hx x hm)]; exact g x hm⟩
set_option maxHeartbeats 1000000 in
theorem pName_any (s : ByteArray) (w : World) (hs : s.size ≤ 1000000) :
    Calls Try.prog 6 #[.string s] w fun e w' => e = .returned (.bool (tokB true (nums s))) ∧ Below w.heap.size w w' := by
  obtain ⟨N, hN⟩ : ∃ N, N = s.size := ⟨_, rfl⟩
  have HN := Lib.hid hN
  have hle : N ≤ 1000000 := by omega
  have HS := Lib.hid hs
  clear hs hN
  go_enter Try.func6, Try.ntmps6
  go_wp2_with fail
  go_loopg [4] N (fun g _ wr => ∃ k : Nat, k + g = N ∧ Hid (∀ j, j < k → capC (at0 (nums s) j) = false) ∧ wr = w.iter s k)
  case atStart => exact ⟨0, by omega, Lib.hid (fun j hj => absurd hj (by omega)), rfl⟩
  case round =>
    obtain ⟨k, hkg, HT, rfl⟩ := hrel
    have HKG := Lib.hid hkg
    have hk : k ≤ N := by omega
    clear hkg
    by_cases hlt : k < N
    · obtain ⟨c, n, hn1, hn2, hc0, hc1, hcc, hnx⟩ := rune_step s k (by rw [← HN.out]; exact hlt)
      have hnx2 := hnx Try.prog
      obtain ⟨t, ht⟩ : ∃ t, capC c = t := ⟨_, rfl⟩
      have HTT := Lib.hid ht
      have HY : Hid (t = false → ∀ j, j < k + n → capC (at0 (nums s) j) = false) := Lib.hid fun h j hj => by
        by_cases hjk : j < k
        · exact HT.out j hjk
        · rcases hcc with ⟨_, rfl, hcv⟩ | ⟨_, hcv⟩
          · obtain rfl : j = k := by omega
            rw [hcv, ht, h]
          · have := hcv (j - k) (by omega)
            rw [show k + (j - k) = j by omega] at this
            exact decide_eq_false (by omega)
      have HZ : Hid (t = true → tokB true (nums s) = false) := Lib.hid fun h => by
        rcases hcc with ⟨_, rfl, hcv⟩ | ⟨hch, hcv⟩
        · unfold tokB; rw [all_not (by rw [nums_length, ← HN.out]; exact hlt) (by rw [hcv]; exact cap_tok (by rw [ht, h]))]; rfl
        · rw [h] at ht
          have := of_decide_eq_true ht
          omega
      have HL := Lib.hid (show k + n ≤ N by rw [HN.out]; exact hn2)
      clear hn2 hc0 hc1 hcc hnx ht
      unfold capC at HTT
      go_wp2_with fail
      refine (isCap_any _ _).mono ?_
      rintro e w1 ⟨rfl, rfl⟩
      rw [HTT.out]
      cases t
      · go_wp2_with fail
        go_roundg (N - (k + n))
        case measure => have := HKG.out; have := HL.out; omega
        case rel => have := HL.out; exact ⟨k + n, by omega, HY.out (by trivial), rfl⟩
      · go_wp2_with fail
        go_ret
        exact ⟨by rw [HZ.out (by trivial)]; rfl, iter_below _ _ _⟩
    · obtain rfl : k = N := by omega
      have HZ := Lib.hid (nocap_all (zs := nums s) (fun j hj => HT.out j (by rw [HN.out, ← nums_length]; exact hj)))
      have hnx := run_next_end (P := Try.prog) w s k
      have hnl : ¬ k < s.size := by rw [← HN.out]; exact Nat.lt_irrefl _
      clear hlt hk
      go_wp2_with fail
      refine (isToken_any _ _ HS.out).mono ?_
      rintro e w1 ⟨rfl, hb⟩
      have HB := Lib.hid ((iter_below w s k).trans (hb.mono (iter_below w s k).size))
      clear hb
      go_wp2_with fail
      go_ret
      exact ⟨by rw [HZ.out]; rfl, HB.out⟩
/-- may this byte stand at this place of a value? -/
def okAt (N j : Nat) (c : Int) : Bool := innC c && (!(decide (j = 0) || decide (j + 1 = N)) || edgeC c)
theorem val_yes {zs : List Int} (h : ∀ j, j < zs.length → okAt zs.length j (at0 zs j) = true) : valB zs = true := by
  have hx : zs.all innC = true := List.all_eq_true.2 fun x hx => by
    obtain ⟨j, hj, rfl⟩ := List.mem_iff_getElem.1 hx
    have := h j hj
    rw [show at0 zs j = zs[j] by simp [at0, hj]] at this
    unfold okAt at this
    rw [Bool.and_eq_true] at this
    exact this.1
  unfold valB
  rw [hx]
  by_cases h0 : zs = []
  · rw [decide_eq_true h0]; rfl
  · have hp : 0 < zs.length := List.length_pos_iff.2 h0
    have e1 := h 0 hp
    have e2 := h (zs.length - 1) (by omega)
    unfold okAt at e1 e2
    rw [decide_eq_true (show (0 : Nat) = 0 from rfl)] at e1
    rw [decide_eq_true (show zs.length - 1 + 1 = zs.length by omega), Bool.or_true] at e2
    simp only [Bool.true_or, Bool.not_true, Bool.false_or, Bool.and_eq_true] at e1 e2
    rw [e1.2, e2.2]
    simp
theorem val_no {zs : List Int} {j : Nat} (hj : j < zs.length) (h : okAt zs.length j (at0 zs j) = false) : valB zs = false := by
  rw [Bool.eq_false_iff]
  intro hv
  unfold valB at hv
  simp only [Bool.and_eq_true, Bool.or_eq_true, decide_eq_true_iff] at hv
  obtain ⟨h1, h2⟩ := hv
  have hi := List.all_eq_true.1 h1 _ (at0_mem hj)
  unfold okAt at h
  rw [hi, Bool.true_and] at h
  rcases h2 with h2 | ⟨h2, h3⟩
  · rw [h2] at hj; exact absurd hj (by simp)
  · simp only [Bool.or_eq_false_iff, Bool.not_eq_false', Bool.or_eq_true, decide_eq_true_iff] at h
    rcases h.1 with rfl | h4
    · rw [h2] at h; cases h.2
    · obtain rfl : j = zs.length - 1 := by omega
      rw [h3] at h; cases h.2
theorem okAt_high {N j : Nat} {c : Int} (h : 128 ≤ c) : okAt N j c = true := by unfold okAt; rw [high_inn h, high_edge h]; simp
set_option maxHeartbeats 2000000 in
theorem pValue_any (s : ByteArray) (w : World) (hs : s.size ≤ 1000000) :
    Calls Try.prog 8 #[.string s] w fun e w' => e = .returned (.bool (valB (nums s))) ∧ Below w.heap.size w w' := by
  obtain ⟨N, hN⟩ : ∃ N, N = s.size := ⟨_, rfl⟩
  have HN := Lib.hid hN
  have hle : N ≤ 1000000 := by omega
  have hlen : ∀ W, (Builtin.len_ #[9] 3 #[.string s]).run Try.prog W = .ok (.int .i64 N) W := fun W => by
    rw [run_len_string W _ _ s Try.underlying9, HN.out]; rfl
  clear hs hN
  go_enter Try.func8, Try.ntmps8
  go_wp2_with fail
  go_loopg [4] N (fun g _ wr => ∃ k : Nat, k + g = N ∧ Hid (∀ j, j < k → okAt N j (at0 (nums s) j) = true) ∧ wr = w.iter s k)
  case atStart => exact ⟨0, by omega, Lib.hid (fun j hj => absurd hj (by omega)), rfl⟩
  case round =>
    obtain ⟨k, hkg, HT, rfl⟩ := hrel
    have HKG := Lib.hid hkg
    have hk : k ≤ N := by omega
    clear hkg
    by_cases hlt : k < N
    · obtain ⟨c, n, hn1, hn2, hc0, hc1, hcc, hnx⟩ := rune_step s k (by rw [← HN.out]; exact hlt)
      have hnx2 := hnx Try.prog
      obtain ⟨t, ht⟩ : ∃ t, okAt N k c = t := ⟨_, rfl⟩
      have HY : Hid (t = true → ∀ j, j < k + n → okAt N j (at0 (nums s) j) = true) := Lib.hid fun h j hj => by
        by_cases hjk : j < k
        · exact HT.out j hjk
        · rcases hcc with ⟨_, rfl, hcv⟩ | ⟨_, hcv⟩
          · obtain rfl : j = k := by omega
            rw [hcv, ht, h]
          · have := hcv (j - k) (by omega)
            rw [show k + (j - k) = j by omega] at this
            exact okAt_high this
      have HZ : Hid (t = false → valB (nums s) = false) := Lib.hid fun h => by
        rcases hcc with ⟨_, rfl, hcv⟩ | ⟨hch, hcv⟩
        · exact val_no (j := k) (by rw [nums_length, ← HN.out]; exact hlt) (by rw [nums_length, ← HN.out, hcv, ht, h])
        · rw [h, okAt_high hch] at ht; cases ht
      have HL := Lib.hid (show k + n ≤ N by rw [HN.out]; exact hn2)
      obtain ⟨p1, e1⟩ : ∃ p, (c == 0) = p := ⟨_, rfl⟩
      obtain ⟨p2, e2⟩ : ∃ p, (c == 10) = p := ⟨_, rfl⟩
      obtain ⟨p3, e3⟩ : ∃ p, (c == 13) = p := ⟨_, rfl⟩
      obtain ⟨p4, e4⟩ : ∃ p, edgeC c = p := ⟨_, rfl⟩
      obtain ⟨p5, e5⟩ : ∃ p, ((k : Int) == 0) = p := ⟨_, rfl⟩
      obtain ⟨p6, e6⟩ : ∃ p, ((k : Int) == (N : Int) - 1) = p := ⟨_, rfl⟩
      have HO := Lib.hid (show t = (!(p1 || p2 || p3) && (!(p5 || p6) || p4)) by
        rw [← ht, ← e1, ← e2, ← e3, ← e4, ← e5, ← e6]
        unfold okAt innC
        rw [show ((k : Int) == 0) = decide (k = 0) by rw [Bool.eq_iff_iff, beq_iff_eq, decide_eq_true_iff]; omega,
          show ((k : Int) == (N : Int) - 1) = decide (k + 1 = N) by rw [Bool.eq_iff_iff, beq_iff_eq, decide_eq_true_iff]; omega])
      have H4 := Lib.hid e4
      clear hn2 hc0 hc1 hcc hnx ht e4
      cases p1
      · cases p2
        · cases p3
          · cases p4
            · cases p5
              · cases p6
                · go_wp2_with fail
                  refine (isBlank_any _ _).mono ?_
                  rintro e w1 ⟨rfl, rfl⟩
                  rw [H4.out]
                  go_wp2_with fail
                  go_roundg (N - (k + n))
                  case measure => have := HKG.out; have := HL.out; omega
                  case rel => have := HL.out; exact ⟨k + n, by omega, HY.out HO.out, rfl⟩
                · go_wp2_with fail
                  refine (isBlank_any _ _).mono ?_
                  rintro e w1 ⟨rfl, rfl⟩
                  rw [H4.out]
                  go_wp2_with fail
                  go_ret
                  exact ⟨by rw [HZ.out HO.out]; rfl, iter_below _ _ _⟩
              · go_wp2_with fail
                refine (isBlank_any _ _).mono ?_
                rintro e w1 ⟨rfl, rfl⟩
                rw [H4.out]
                go_wp2_with fail
                go_ret
                exact ⟨by rw [HZ.out HO.out]; rfl, iter_below _ _ _⟩
            · have HO2 := Lib.hid (show t = true by have := HO.out; simpa using this)
              go_wp2_with fail
              refine (isBlank_any _ _).mono ?_
              rintro e w1 ⟨rfl, rfl⟩
              rw [H4.out]
              go_wp2_with fail
              go_roundg (N - (k + n))
              case measure => have := HKG.out; have := HL.out; omega
              case rel => have := HL.out; exact ⟨k + n, by omega, HY.out HO2.out, rfl⟩
          · have HO2 := Lib.hid (show t = false by have := HO.out; simpa using this)
            go_wp2_with fail
            go_ret
            exact ⟨by rw [HZ.out HO2.out]; rfl, iter_below _ _ _⟩
        · have HO2 := Lib.hid (show t = false by have := HO.out; simpa using this)
          go_wp2_with fail
          go_ret
          exact ⟨by rw [HZ.out HO2.out]; rfl, iter_below _ _ _⟩
      · have HO2 := Lib.hid (show t = false by have := HO.out; simpa using this)
        go_wp2_with fail
        go_ret
        exact ⟨by rw [HZ.out HO2.out]; rfl, iter_below _ _ _⟩
    · obtain rfl : k = N := by omega
      have HZ := Lib.hid (val_yes (zs := nums s) (fun j hj => by rw [nums_length] at hj ⊢; rw [← HN.out] at hj ⊢; exact HT.out j hj))
      have hnx := run_next_end (P := Try.prog) w s k
      have hnl : ¬ k < s.size := by rw [← HN.out]; exact Nat.lt_irrefl _
      clear hlt hk
      go_wp2_with fail
      go_ret
      exact ⟨by rw [HZ.out]; rfl, iter_below _ _ _⟩
end Go.Proofs.Ytabonhiolcjnnaa
