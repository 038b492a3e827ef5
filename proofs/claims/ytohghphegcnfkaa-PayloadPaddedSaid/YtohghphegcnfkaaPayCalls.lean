
/-
  Layer 11, the program's own: may a frame be, its flags, its numbers, a copy of bytes, the payload without padding.
-/
import Derived.Test.YtohghphegcnfkaaPaySmall
import Derived.Test.YtohghphegcnfkaaRegion
namespace Go.Proofs.Ytohghphegcnfkaa
set_option maxRecDepth 20000
open Go.RowKit

theorem pwithin_any (n m : Int) (w : World) : Calls Try.prog 13 #[.int .i64 n, .int .i64 m] w fun e w' => e = .returned (.bool (decide (0 ≤ n ∧ n ≤ m))) ∧ w = w' := by
  by_cases h0 : 0 ≤ n
  · have d1 : decide (0 ≤ n) = true := decide_eq_true h0
    have HD := Lib.hid (show decide (0 ≤ n ∧ n ≤ m) = decide (n ≤ m) by simp [h0])
    clear h0
    go_enter Try.func13, Try.ntmps13
    go_wp2
    go_ret
    exact ⟨by rw [HD.out]; rfl, rfl⟩
  · have d1 : decide (0 ≤ n) = false := decide_eq_false h0
    have HD := Lib.hid (show decide (0 ≤ n ∧ n ≤ m) = false by simp [h0])
    clear h0
    go_enter Try.func13, Try.ntmps13
    go_wp2
    go_ret
    exact ⟨by rw [HD.out]; rfl, rfl⟩
theorem mayBe_any (v : Value) (f : Fr) (w : World) (h : FrV w v f) : Calls Try.prog 9 #[v] w fun e w' => e = .returned (.bool (decide f.right)) ∧ Below w.heap.size w w' := by
  obtain ⟨pv, rfl, hp⟩ := h
  obtain ⟨a, cap, rfl, _⟩ := hp
  go_enter Try.func9, Try.ntmps9
  go_wp2_with (go_at_call 13; refine (pwithin_any _ _ _).mono ?_; rintro e w' ⟨rfl, rfl⟩)
  all_goals go_ret
  all_goals (refine ⟨congrArg (fun b => Ending.returned (Value.bool b)) (Bool.eq_iff_iff.2 ?_), (Below.refl _ _).alloc (Nat.le_refl _) _⟩; rw [show (decide f.right = true) = f.right from decide_eq_true_eq]; unfold Fr.right; simp_all <;> omega)

theorem land_flag : ∀ A : Fin 256, ((A.val &&& 1 != 0) = (A.val / 1 % 2 == 1)) ∧ ((A.val &&& 4 != 0) = (A.val / 4 % 2 == 1)) ∧ ((A.val &&& 8 != 0) = (A.val / 8 % 2 == 1)) ∧ ((A.val &&& 32 != 0) = (A.val / 32 % 2 == 1)) := by decide +kernel
theorem and_flag {x : Int} (h0 : 0 ≤ x) (h1 : x ≤ 255) (n : Int) (hn : n = 1 ∨ n = 4 ∨ n = 8 ∨ n = 32) : (bits .and .i64 x n != 0) = (x / n % 2 == 1) := by
  obtain ⟨A, rfl⟩ := Int.eq_ofNat_of_zero_le h0
  obtain ⟨e1, e4, e8, e32⟩ := land_flag ⟨A, by omega⟩
  simp only at e1 e4 e8 e32
  have key : ∀ k : Nat, (A &&& k != 0) = (A / k % 2 == 1) → ((((A &&& k : Nat) : Int)) != 0) = ((A : Int) / (k : Int) % 2 == 1) := fun k e => by
    have c1 : ((((A &&& k : Nat) : Int)) != 0) = (A &&& k != 0) := by rw [Bool.eq_iff_iff]; simp only [bne_iff_ne, ne_eq]; omega
    have c2 : ((A : Int) / (k : Int) % 2 == 1) = (A / k % 2 == 1) := by rw [Bool.eq_iff_iff]; simp only [beq_iff_eq]; omega
    rw [c1, c2, e]
  rcases hn with rfl | rfl | rfl | rfl <;> (rw [i64_and _ _ (by omega) (by omega) (by omega) (by omega)]; simp only [Int.toNat_natCast])
  · exact key 1 e1
  · exact key 4 e4
  · exact key 8 e8
  · exact key 32 e32
theorem phas_any (v : Value) (f : Fr) (n : Int) (w : World) (h : FrV w v f) (h0 : 0 ≤ f.flags) (h1 : f.flags ≤ 255) (hn : n = 1 ∨ n = 4 ∨ n = 8 ∨ n = 32) :
    Calls Try.prog 26 #[v, .int .i64 n] w fun e w' => e = .returned (.bool (flagB f n)) ∧ Below w.heap.size w w' := by
  obtain ⟨pv, rfl, hp⟩ := h
  obtain ⟨a, cap, rfl, _⟩ := hp
  have HE := Lib.hid (and_flag h0 h1 n hn)
  clear h0 h1 hn
  go_enter Try.func26, Try.ntmps26
  go_wp2
  go_ret
  refine ⟨?_, (Below.refl _ _).alloc (Nat.le_refl _) _⟩
  rw [HE.out]; rfl
theorem Try.sliceB11 : Try.prog.underlying 23 = some (.slice (Try.prog.elem 23)) := by kernel_rfl
theorem Try.sizeB11 (w : World) : (sizeOf (Try.prog.elem 23)).run Try.prog w = .ok 1 w := by kernel_rfl
theorem pnumber_any (v : Value) (zs : List Int) (s : Int) (w : World) (hv : Sl .u8 w v zs) (h1 : 1 ≤ s) (h4 : s ≤ 4) (hl : s ≤ zs.length) :
    Calls Try.prog 29 #[v, .int .i64 s] w fun e w' => e = .returned (.int .i64 (num (zs.take s.toNat))) ∧ w = w' := by
  have hm := hv.len
  unfold maxLen at hm
  obtain ⟨a, cap, rfl, _⟩ := id hv
  obtain ⟨vr, hrr, hvr⟩ := hv.upto Try.sliceB11 Try.sizeB11 s (by omega) hl
  have ht : (zs.take s.toNat).length = s.toNat := by simp; omega
  obtain ⟨xs, hxs⟩ : ∃ xs, xs = zs.take s.toNat := ⟨_, rfl⟩
  rw [← hxs] at hvr ht ⊢
  clear hxs
  go_enter Try.func29, Try.ntmps29
  go_wp2_with (go_at_call 32; refine (get_yes _ xs _ hvr (by omega) (by omega)).mono ?_; rintro e w' ⟨rfl, rfl⟩)
  go_ret
  exact ⟨rfl, rfl⟩
theorem and31' {x : Int} (h0 : 0 ≤ x) (h1 : x < 4294967296) : bits .and .i64 x 2147483647 = x % 2147483648 := by
  obtain ⟨A, rfl⟩ := Int.eq_ofNat_of_zero_le h0
  rw [i64_and _ _ (by omega) (by omega) (by omega) (by omega)]
  have e : A &&& 2147483647 = A % 2147483648 := Nat.and_two_pow_sub_one_eq_mod A 31
  simp only [Int.toNat_natCast]
  show ((A &&& 2147483647 : Nat) : Int) = _
  rw [e]; omega
theorem lowered_any (v : Value) (zs : List Int) (w : World) (hv : Sl .u8 w v zs) (hl : 4 ≤ zs.length) :
    Calls Try.prog 31 #[v] w fun e w' => e = .returned (.int .i64 (lowF zs)) ∧ w = w' := by
  have hn := num_take_bound zs 4 hv.fit (by omega)
  have e4 : (256 : Int) ^ 4 = 4294967296 := by decide
  rw [e4] at hn
  have HE := Lib.hid (and31' hn.1 hn.2)
  clear hn e4
  go_enter Try.func31, Try.ntmps31
  go_wp2_with (go_at_call 29; refine (pnumber_any v zs 4 _ hv (by omega) (by omega) (by omega)).mono ?_; rintro e w' ⟨rfl, rfl⟩)
  go_ret
  refine ⟨?_, rfl⟩
  have := HE.out
  show Ending.returned (Value.int .i64 (bits .and .i64 (num (zs.take 4)) 2147483647)) = _
  rw [this]; rfl
theorem isItself_any (v u : Value) (f : Fr) (zs : List Int) (w : World) (h : FrV w v f) (hu : Sl .u8 w u zs) (hl : 4 ≤ zs.length) :
    Calls Try.prog 27 #[v, u] w fun e w' => e = .returned (.bool (decide (lowF zs = f.stream))) ∧ Below w.heap.size w w' := by
  obtain ⟨pv, rfl, hp⟩ := h
  obtain ⟨a, cap, rfl, _⟩ := hp
  have hal := (Below.refl w.heap.size w).alloc (Nat.le_refl _) (.cells #[.int .i64 f.kind, .int .i64 f.flags, .int .i64 f.stream, .slice a f.pay.length cap] 51)
  have HL := Lib.hid (fun n => (lowered_any u zs _ ((hu.below hal).drewN n) hl).mono fun _ _ hh => (⟨hh.1, hh.2.symm⟩ : _ ∧ _ = _))
  have HB := Lib.hid hal
  have hbx := Bx.new w 51 f (.slice a f.pay.length cap)
  have c2 := hbx.c2
  have hsz := hbx.lt
  clear hal hu hbx
  go_enter Try.func27, Try.ntmps27
  go_wp2_with fail
  go_quiet ((go_at_call 31; exact Calls.quiet_of_same (HL.out _)))
  go_wp2_with fail
  go_ret
  refine ⟨?_, below_drewN HB.out _⟩
  rfl
theorem Try.infoB11 : (Try.prog.info? 5).map (fun i => (i.zero, i.size, i.bytes)) = some (some (.int .u8 0), 1, 1) := by kernel_rfl
theorem fresh_own (w : World) (e : TypeId) : (w.alloc (.cells #[] e)).ownsRow w.heap.size e 1 (.slice (some ⟨w.heap.size, 0, none⟩) 0 0) 0 (([] : List Int).map (Value.int .u8)) :=
  ⟨rfl, .inr ⟨w.heap.size, 0, #[], rfl, Nat.le_refl _, heap_alloc_new w _, Nat.le_refl _, by simp, rfl, rfl⟩⟩
theorem nil_none (W : World) : (binOp .eql 23 (.slice none 0 0) (.slice none 0 0)).run Try.prog W = .ok (.bool true) W := by kernel_rfl
theorem nil_some (ad : Addr) (n c : Nat) (W : World) : (binOp .eql 23 (.slice (some ad) n c) (.slice none 0 0)).run Try.prog W = .ok (.bool false) W := by kernel_rfl
set_option maxHeartbeats 1000000 in
theorem clone11_any (v : Value) (zs : List Int) (w : World) (hv : Sl .u8 w v zs) (hl : zs.length ≤ 1000000000) :
    Calls Try.prog 25 #[v] w fun e w' => ∃ bv, e = .returned bv ∧ Sl .u8 w' bv zs ∧ Apart11 w' bv ∧ Below w.heap.size w w' := by
  obtain ⟨a, cap, rfl, _⟩ := id hv
  obtain ⟨N, hN⟩ : ∃ N, N = zs.length := ⟨_, rfl⟩
  rw [← hN] at hv ⊢
  cases a with
  | none =>
    obtain ⟨rfl, rfl⟩ := hv.bare
    obtain rfl : zs = [] := List.eq_nil_of_length_eq_zero hN.symm
    clear hv hN hl
    have hq : ∀ W, (binOp .eql 23 (.slice none 0 0) (.slice none 0 0)).run Try.prog W = .ok (.bool true) W := fun W => nil_none W
    go_enter Try.func25, Try.ntmps25
    go_wp2
    go_ret
    exact ⟨_, rfl, Sl.nil _ _, Apart11.bare _ _ _, Below.refl _ _⟩
  | some ad =>
    have hal := (Below.refl w.heap.size w).alloc (Nat.le_refl _) (.cells #[] 5)
    have HS := Lib.hid (hv.below hal)
    have HO := Lib.hid (fresh_own w 5)
    have HB := Lib.hid hal
    clear hal hN
    have hq : ∀ W, (binOp .eql 23 (.slice (some ad) N cap) (.slice none 0 0)).run Try.prog W = .ok (.bool false) W := fun W => nil_some ad N cap W
    go_enter Try.func25, Try.ntmps25
    go_wp2_with (at_builtin; refine app_ints rfl (.tmp 5) (.tmp 6) 23 rfl w.heap.size 5 .u8 1 Try.underlying23 Try.infoB11 _ 0 [] rfl HO.out _ zs rfl HS.out (by simp; omega) (by simp; unfold maxLen; omega) (by simp) ?_; intro v2 w3 hO3 hb3 hg3)
    go_ret
    simp only [List.nil_append, List.length_nil, Nat.zero_add] at hO3
    exact ⟨_, rfl, Sl.owned hO3 hv.fit (by unfold maxLen; omega), Apart11.own hO3 (by decide) (by decide), HB.out.trans hb3⟩
theorem unpad_flag {f : Fr} (h : flagB f 8 = false) : unpadF f = (0, f.pay) := by unfold unpadF; rw [h]; rfl
theorem unpad_nil {f : Fr} (h : flagB f 8 = true) (hp : f.pay = []) : unpadF f = (6, []) := by unfold unpadF; rw [h, hp]; rfl
theorem unpad_less {f : Fr} (h : flagB f 8 = true) {n : Int} {r : List Int} (hp : f.pay = n :: r) (hl : (r.length : Int) < n) : unpadF f = (1, []) := by
  unfold unpadF; rw [h, hp]; simp only [cond_true]; rw [if_pos hl]
theorem unpad_cut {f : Fr} (h : flagB f 8 = true) {n : Int} {r : List Int} (hp : f.pay = n :: r) (hl : ¬ (r.length : Int) < n) : unpadF f = (0, r.take (r.length - n.toNat)) := by
  unfold unpadF; rw [h, hp]; simp only [cond_true]; rw [if_neg hl]
end Go.Proofs.Ytohghphegcnfkaa
