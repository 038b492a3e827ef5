
/-
  Layer 10, the program's own: number, isStatus, isOrdinary.
-/
import Derived.Test.YtabonhiolcjnnaaReqName
import Derived.Test.YtabonhiolcjnnaaReqField
namespace Go.Proofs.Ytabonhiolcjnnaa
set_option maxRecDepth 20000
open Go.RowKit

/-- what number answers -/
def numT (zs : List Int) : Value := .tuple #[.int .i64 (bif decide (0 ≤ numB zs) then numB zs else 0), .bool (decide (0 ≤ numB zs))]
theorem numB_none {zs : List Int} (h : numB zs = -1) : numT zs = .tuple #[.int .i64 0, .bool false] := by
  unfold numT; rw [h]; rfl
theorem numB_some {zs : List Int} {n : Int} (h : numB zs = n) (h0 : 0 ≤ n) : numT zs = .tuple #[.int .i64 n, .bool true] := by
  unfold numT; rw [h, decide_eq_true h0]; rfl
set_option maxHeartbeats 2000000 in
theorem pNumber_any (s : ByteArray) (w : World) (hs : s.size ≤ 1000000) :
    Calls Try.prog 27 #[.string s] w fun e w' => e = .returned (numT (nums s)) ∧ Below w.heap.size w w' := by
  obtain ⟨N, hN⟩ : ∃ N, N = s.size := ⟨_, rfl⟩
  have HN := Lib.hid hN
  have hle : N ≤ 1000000 := by omega
  have hlen : ∀ W, (Builtin.len_ #[9] 3 #[.string s]).run Try.prog W = .ok (.int .i64 N) W := fun W => by
    rw [run_len_string W _ _ s Try.underlying9, HN.out]; rfl
  have hem : s.toList.isEmpty = decide (N < 1) := by
    have : s.toList.isEmpty = (nums s).isEmpty := by
      rw [Bool.eq_iff_iff, List.isEmpty_iff, List.isEmpty_iff, Lib.toList_data, nums, List.map_eq_nil_iff]
    rw [this, hN, ← nums_length]
    cases nums s <;> simp
  clear hs hN
  by_cases h1 : N < 1
  · rw [decide_eq_true h1] at hem
    have HZ := Lib.hid (show numB (nums s) = -1 by unfold numB; rw [if_neg (by rw [nums_length, ← HN.out]; omega)])
    clear h1
    go_enter Try.func27, Try.ntmps27
    go_wp2_with fail
    go_ret2
    exact ⟨by rw [numB_none HZ.out]; rfl, Below.refl _ _⟩
  rw [decide_eq_false h1] at hem
  by_cases h2 : 15 < N
  · have d2 : decide ((15 : Int) < (N : Int)) = true := decide_eq_true (by omega)
    have HZ := Lib.hid (show numB (nums s) = -1 by unfold numB; rw [if_neg (by rw [nums_length, ← HN.out]; omega)])
    clear h1 h2
    go_enter Try.func27, Try.ntmps27
    go_wp2_with fail
    go_ret2
    exact ⟨by rw [numB_none HZ.out]; rfl, Below.refl _ _⟩
  have d2 : decide ((15 : Int) < (N : Int)) = false := decide_eq_false (by omega)
  have HR := Lib.hid (show 1 ≤ N ∧ N ≤ 15 by omega)
  clear h1 h2
  go_enter Try.func27, Try.ntmps27
  go_wp2_with fail
  go_loopg [4, 6] N (fun g s4 _ wr => ∃ k : Nat, k + g = N ∧ s4 = .int .i64 (figN 0 ((nums s).take k)) ∧ Hid (((nums s).take k).all figB = true) ∧ wr = w.iter s k)
  case atStart => exact ⟨0, by omega, rfl, Lib.hid rfl, rfl⟩
  case round =>
    obtain ⟨k, hkg, rfl, HT, rfl⟩ := hrel
    have HKG := Lib.hid hkg
    have hk : k ≤ N := by omega
    clear hkg
    by_cases hlt : k < N
    · obtain ⟨c, n, hn1, hn2, hc0, hc1, hcc, hnx⟩ := rune_step s k (by rw [← HN.out]; exact hlt)
      have hnx2 := hnx Try.prog
      have hrg := figN_range _ 0 HT.out (by omega)
      have hp : (10 : Int) ^ ((nums s).take k).length ≤ 10 ^ 14 := by
        have h : (10 : Nat) ^ ((nums s).take k).length ≤ 10 ^ 14 := Nat.pow_le_pow_right (by decide) (by rw [List.length_take]; have := HR.out; omega)
        exact_mod_cast h
      have hmn : 0 ≤ figN 0 ((nums s).take k) ∧ figN 0 ((nums s).take k) < 100000000000000 := ⟨hrg.1, by omega⟩
      obtain ⟨f, hf⟩ : ∃ f, figB c = f := ⟨_, rfl⟩
      have HY : Hid (f = true → n = 1 ∧ ((nums s).take (k + 1)).all figB = true ∧ figN 0 ((nums s).take (k + 1)) = 10 * figN 0 ((nums s).take k) + (c - 48)) := Lib.hid fun h => by
        rcases hcc with ⟨_, h1, hcv⟩ | ⟨hch, _⟩
        · refine ⟨h1, all_next HT.out (by rw [nums_length, ← HN.out]; exact hlt) (by rw [hcv, hf, h]), ?_⟩
          rw [figN_take (by rw [nums_length, ← HN.out]; exact hlt), hcv]
        · rw [high_fig hch, h] at hf; cases hf
      have HZ : Hid (f = false → numB (nums s) = -1) := Lib.hid fun h => by
        unfold numB
        rw [if_neg]
        rintro ⟨_, _, h3⟩
        have hb : figB (at0 (nums s) k) = false := by
          rcases hcc with ⟨_, _, hcv⟩ | ⟨_, hcv⟩
          · rw [hcv, hf, h]
          · have := hcv 0 (by omega)
            rw [Nat.add_zero] at this
            exact high_fig this
        rw [all_not (by rw [nums_length, ← HN.out]; exact hlt) hb] at h3
        cases h3
      clear hrg hp hn1 hn2 hc0 hc1 hcc hnx
      obtain ⟨m, hm⟩ : ∃ m, figN 0 ((nums s).take k) = m := ⟨_, rfl⟩
      rw [hm] at hmn HY ⊢
      clear hm
      have HF := Lib.hid hf
      cases f
      · clear hf
        go_wp2_with fail
        refine (isFig_any _ _).mono ?_
        rintro e w1 ⟨rfl, rfl⟩
        rw [HF.out]
        go_wp2_with fail
        go_ret2
        exact ⟨by rw [numB_none (HZ.out (by trivial))]; rfl, iter_below _ _ _⟩
      · have hc := of_decide_eq_true hf
        obtain rfl : n = 1 := (HY.out rfl).1
        clear hf
        go_wp2_with fail
        refine (isFig_any _ _).mono ?_
        rintro e w1 ⟨rfl, rfl⟩
        rw [HF.out]
        go_wp2_with fail
        go_roundg (N - (k + 1))
        case measure => have := HKG.out; omega
        case rel => exact ⟨k + 1, by omega, by rw [(HY.out (by trivial)).2.2], (HY.out (by trivial)).2.1, rfl⟩
    · obtain rfl : k = N := by omega
      have HZ := Lib.hid (show numB (nums s) = figN 0 ((nums s).take k) ∧ 0 ≤ figN 0 ((nums s).take k) by
        have h := HT.out
        have h2 := (figN_range _ 0 h (by omega)).1
        have e : (nums s).take k = nums s := List.take_of_length_le (by rw [nums_length, ← HN.out]; exact Nat.le_refl _)
        rw [e] at h h2 ⊢
        refine ⟨?_, h2⟩
        unfold numB
        rw [if_pos ⟨by rw [nums_length, ← HN.out]; exact HR.out.1, by rw [nums_length, ← HN.out]; exact HR.out.2, h⟩])
      have hnx := run_next_end (P := Try.prog) w s k
      have hnl : ¬ k < s.size := by rw [← HN.out]; exact Nat.lt_irrefl _
      obtain ⟨m, hm⟩ : ∃ m, figN 0 ((nums s).take k) = m := ⟨_, rfl⟩
      rw [hm] at HZ ⊢
      clear hlt hk hm
      go_wp2_with fail
      go_ret2
      exact ⟨by rw [numB_some HZ.out.1 HZ.out.2]; rfl, iter_below _ _ _⟩
set_option maxHeartbeats 2000000 in
theorem isStatus_any (s : ByteArray) (w : World) (hs : s.size ≤ 1000000) :
    Calls Try.prog 30 #[.string s] w fun e w' => e = .returned (.bool (decide (s.size = 3) && (decide (200 ≤ numB (nums s)) && decide (numB (nums s) ≤ 599)))) ∧ Below w.heap.size w w' := by
  obtain ⟨N, hN⟩ : ∃ N, N = s.size := ⟨_, rfl⟩
  have HN := Lib.hid hN
  have HS := Lib.hid hs
  have hle : N ≤ 1000000 := by omega
  have hlen : ∀ W, (Builtin.len_ #[9] 3 #[.string s]).run Try.prog W = .ok (.int .i64 N) W := fun W => by
    rw [run_len_string W _ _ s Try.underlying9, HN.out]; rfl
  obtain ⟨m, hm⟩ : ∃ m, numB (nums s) = m := ⟨_, rfl⟩
  obtain ⟨p1, e1⟩ : ∃ p, ((N : Int) == 3) = p := ⟨_, rfl⟩
  obtain ⟨p2, e2⟩ : ∃ p, decide (200 ≤ m) = p := ⟨_, rfl⟩
  have HO := Lib.hid (show (decide (s.size = 3) && (decide (200 ≤ numB (nums s)) && decide (numB (nums s) ≤ 599))) = (p1 && (p2 && decide (m ≤ 599))) by
    rw [hm, ← e2, ← e1, ← hN]
    congr 1
    rw [Bool.eq_iff_iff, beq_iff_eq, decide_eq_true_iff]; omega)
  by_cases h0 : 0 ≤ m
  · have HM := Lib.hid (numB_some hm h0)
    clear hs hN hm h0
    cases p1
    · go_enter Try.func30, Try.ntmps30
      go_wp2_with fail
      refine (pNumber_any _ _ HS.out).mono ?_
      rintro e w1 ⟨rfl, hb⟩
      rw [HM.out]
      have HB := Lib.hid hb
      clear hb
      go_wp2_with fail
      go_ret
      exact ⟨by rw [HO.out]; rfl, HB.out⟩
    cases p2
    all_goals
      go_enter Try.func30, Try.ntmps30
      go_wp2_with fail
      refine (pNumber_any _ _ HS.out).mono ?_
      rintro e w1 ⟨rfl, hb⟩
      rw [HM.out]
      have HB := Lib.hid hb
      clear hb
      go_wp2_with fail
      go_ret
      exact ⟨by rw [HO.out]; rfl, HB.out⟩
  · have hn1 : m = -1 := by
      unfold numB at hm
      split at hm
      · rename_i hc
        have := (figN_range _ 0 hc.2.2 (by omega)).1
        omega
      · exact hm.symm
    have HM := Lib.hid (numB_none (hm.trans hn1))
    have HO2 := Lib.hid (show (p1 && (p2 && decide (m ≤ 599))) = false by
      rw [← e2, decide_eq_false (show ¬ 200 ≤ m by omega)]; simp)
    clear hs hN hm h0 hn1 e2
    go_enter Try.func30, Try.ntmps30
    go_wp2_with fail
    refine (pNumber_any _ _ HS.out).mono ?_
    rintro e w1 ⟨rfl, hb⟩
    rw [HM.out]
    have HB := Lib.hid hb
    clear hb
    go_wp2_with fail
    go_ret
    exact ⟨by rw [HO.out, HO2.out]; rfl, HB.out⟩
set_option maxHeartbeats 2000000 in
theorem pOrd_any (n v : ByteArray) (w : World) (hn : n.size ≤ 1000000) (hv : v.size ≤ 1000000) :
    Calls Try.prog 26 #[fldV n v] w fun e w' => e = .returned (.bool (ordF (n, v))) ∧ Below w.heap.size w w' := by
  unfold fldV
  have HN := Lib.hid hn
  have HV := Lib.hid hv
  have hf := FldAt.new w n v
  have hb := Lib.hid ((Below.refl w.heap.size w).alloc (Nat.le_refl _) (.cells #[.string n, .string v] 29))
  have HF := Lib.hid hf
  have c0 := hf.c0
  have c1 := hf.c1
  have hsz := hf.lt
  obtain ⟨t, ht⟩ : ∃ t, tokB true (nums n) = t := ⟨_, rfl⟩
  obtain ⟨u, hu⟩ : ∃ t, valB (nums v) = t := ⟨_, rfl⟩
  have HO := Lib.hid (show ordF (n, v) = ((t && u) && (!badB n && (bif eqB n nTe then eqB v nTrail else bif eqB n nLen then decide (0 ≤ numB (nums v)) else true))) by unfold ordF; rw [ht, hu])
  have HT := Lib.hid ht
  have HU := Lib.hid hu
  clear hn hv hf ht hu
  go_enter Try.func26, Try.ntmps26
  go_wp2_with fail
  refine (pName_any _ _ HN.out).mono ?_
  rintro e w1 ⟨rfl, hb1⟩
  rw [HT.out]
  have HB1 := Lib.hid (hb.out.trans (hb1.mono hb.out.size))
  have HF1 := Lib.hid (HF.out.grown hb1)
  clear hb1 c0 c1 hsz HF hb
  have c0 := HF1.out.c0
  have c1 := HF1.out.c1
  have hsz := HF1.out.lt
  cases t
  · go_wp2_with fail
    go_ret
    exact ⟨by rw [HO.out]; rfl, HB1.out⟩
  go_wp2_with fail
  refine (pValue_any _ _ HV.out).mono ?_
  rintro e w2 ⟨rfl, hb2⟩
  rw [HU.out]
  have HB := Lib.hid (HB1.out.trans (hb2.mono HB1.out.size))
  have HF2 := Lib.hid (HF1.out.grown hb2)
  clear hb2 c0 c1 hsz HF1 HB1
  have c0 := HF2.out.c0
  have c1 := HF2.out.c1
  have hsz := HF2.out.lt
  cases u
  · go_wp2_with fail
    go_ret
    exact ⟨by rw [HO.out]; rfl, HB.out⟩
  simp only [badB, eqB, nConn, nKeep, nProxy, nTrans, nUpgr, nTe, nTrail, nLen, tx, ByteArray.toList_mk, Bool.true_and] at HO
  obtain ⟨b1, e1⟩ : ∃ b, (n.toList == [99, 111, 110, 110, 101, 99, 116, 105, 111, 110]) = b := ⟨_, rfl⟩
  obtain ⟨b2, e2⟩ : ∃ b, (n.toList == [107, 101, 101, 112, 45, 97, 108, 105, 118, 101]) = b := ⟨_, rfl⟩
  obtain ⟨b3, e3⟩ : ∃ b, (n.toList == [112, 114, 111, 120, 121, 45, 99, 111, 110, 110, 101, 99, 116, 105, 111, 110]) = b := ⟨_, rfl⟩
  obtain ⟨b4, e4⟩ : ∃ b, (n.toList == [116, 114, 97, 110, 115, 102, 101, 114, 45, 101, 110, 99, 111, 100, 105, 110, 103]) = b := ⟨_, rfl⟩
  obtain ⟨b5, e5⟩ : ∃ b, (n.toList == [117, 112, 103, 114, 97, 100, 101]) = b := ⟨_, rfl⟩
  obtain ⟨b6, e6⟩ : ∃ b, (n.toList == [116, 101]) = b := ⟨_, rfl⟩
  obtain ⟨b7, e7⟩ : ∃ b, (n.toList == [99, 111, 110, 116, 101, 110, 116, 45, 108, 101, 110, 103, 116, 104]) = b := ⟨_, rfl⟩
  rw [e1, e2, e3, e4, e5, e6, e7] at HO
  cases b1
  · cases b2
    · cases b3
      · cases b4
        · cases b5
          · cases b6
            · cases b7
              · go_wp2_with fail
                go_ret
                exact ⟨by rw [HO.out]; rfl, HB.out⟩
              · obtain ⟨z, hz⟩ : ∃ z, decide (0 ≤ numB (nums v)) = z := ⟨_, rfl⟩
                have HZ := Lib.hid (show numT (nums v) = .tuple #[.int .i64 (bif z then numB (nums v) else 0), .bool z] by unfold numT; rw [hz])
                rw [hz] at HO
                clear hz
                go_wp2_with fail
                refine (pNumber_any _ _ HV.out).mono ?_
                rintro e w3 ⟨rfl, hb3⟩
                rw [HZ.out]
                have HB3 := Lib.hid (HB.out.trans (hb3.mono HB.out.size))
                clear hb3
                go_wp2_with fail
                go_ret
                exact ⟨by rw [HO.out]; rfl, HB3.out⟩
            · go_wp2_with fail
              go_ret
              exact ⟨by rw [HO.out]; rfl, HB.out⟩
          · go_wp2_with fail
            go_ret
            exact ⟨by rw [HO.out]; rfl, HB.out⟩
        · go_wp2_with fail
          go_ret
          exact ⟨by rw [HO.out]; rfl, HB.out⟩
      · go_wp2_with fail
        go_ret
        exact ⟨by rw [HO.out]; rfl, HB.out⟩
    · go_wp2_with fail
      go_ret
      exact ⟨by rw [HO.out]; rfl, HB.out⟩
  · go_wp2_with fail
    go_ret
    exact ⟨by rw [HO.out]; rfl, HB.out⟩
end Go.Proofs.Ytabonhiolcjnnaa
