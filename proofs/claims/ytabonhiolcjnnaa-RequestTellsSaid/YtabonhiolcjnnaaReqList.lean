
/-
  Layer 10's reference: Length, value, Trailers.
-/
import Derived.Test.YtabonhiolcjnnaaReqField
import Derived.Test.YtabonhiolcjnnaaBuilds
import Derived.BigQuiet
namespace Go.Proofs.Ytabonhiolcjnnaa
set_option maxRecDepth 20000
open Go.RowKit

theorem slcFd : Try.prog.underlying 22 = some (.slice (Try.prog.elem 22)) := by kernel_rfl
/-- no text of theirs is too long -/
def Mild (fs : List Fd) : Prop := ∀ f ∈ fs, f.1.size ≤ 1000000 ∧ f.2.size ≤ 1000000
theorem Mild.at_ {fs : List Fd} (h : Mild fs) {k : Nat} {f : Fd} (hf : fs[k]? = some f) : f.1.size ≤ 1000000 ∧ f.2.size ≤ 1000000 := h f (List.mem_of_getElem? hf)
theorem Mild.drop {fs : List Fd} (h : Mild fs) (n : Nat) : Mild (fs.drop n) := fun f hf => h f (List.mem_of_mem_drop hf)
theorem fld_at {fs : List Fd} {k : Nat} (h : k < fs.length) : ∃ f, fs[k]? = some f := ⟨fs[k], List.getElem?_eq_getElem h⟩
theorem drop_at {fs : List Fd} {k : Nat} {f : Fd} (h : fs[k]? = some f) : fs.drop k = f :: fs.drop (k + 1) := by
  obtain ⟨hl, rfl⟩ := List.getElem?_eq_some_iff.1 h
  exact List.drop_eq_getElem_cons hl
theorem take_at {fs : List Fd} {k : Nat} {f : Fd} (h : fs[k]? = some f) : fs.take (k + 1) = fs.take k ++ [f] := by
  rw [List.take_add_one, h]; rfl
/-- 'v[lo:]' -/
theorem SlD.from_ {P : Program} {t : TypeId} (ht : P.underlying t = some (.slice (P.elem t))) (he : ∀ w, (sizeOf (P.elem t)).run P w = .ok 2 w) {w : World} {a : Option Addr} {n cap : Nat} {fs : List Fd}
    (h : SlD w (.slice a n cap) fs) (lo : Nat) (h1 : lo ≤ fs.length) :
    ∃ v, (∀ (kl : IntKind) (w1 : World), (Instr.slice t (.slice a n cap) (some (.int kl (lo : Int))) none none).run P w1 = .ok v w1) ∧ SlD w v (fs.drop lo) := by
  obtain ⟨a', cap', e, hc1, hc2, h3⟩ := h
  simp only [Value.slice.injEq] at e
  obtain ⟨rfl, rfl, rfl⟩ := e
  refine ⟨sliced a lo fs.length cap 2, fun kl w1 => ?_, ?_⟩
  · rw [run_slice_l w1 t a fs.length cap ht kl lo (by omega) (by omega), he]; rfl
  · have el : (fs.drop lo).length = fs.length - lo := by simp
    refine ⟨if cap = lo then a else a.map (·.add (lo * 2)), cap - lo, by rw [el]; rfl, by omega, by omega, ?_⟩
    by_cases h0 : fs.length - lo = 0
    · refine .inl ⟨by omega, fun he => ?_⟩
      by_cases hcl : cap = lo
      · omega
      · rw [if_neg hcl] at he
        rcases h3 with ⟨_, h3⟩ | ⟨b, off, rfl, _⟩
        · cases a with
          | none => have := h3 rfl; omega
          | some x => simp at he
        · simp at he
    · right
      rcases h3 with ⟨h3, _⟩ | ⟨b, off, rfl, hb, hc⟩
      · omega
      · refine ⟨b, off + lo * 2, ?_, hb, fun i f hi' => ?_⟩
        · rw [if_neg (by omega)]; simp [Go.WideShapes.add_plain]
        · rw [List.getElem?_drop] at hi'
          have := hc _ _ hi'
          rw [show off + lo * 2 + i * 2 = off + (lo + i) * 2 by omega]
          exact this
theorem mild_len {fs : List Fd} {w : World} {v : Value} (h : SlD w v fs) : fs.length ≤ maxLen := h.len
set_option maxHeartbeats 1000000 in
theorem refLen_any (v : Value) (fs : List Fd) (w : World) (h : SlD w v fs) (hm : Mild fs) :
    Calls Try.prog 17 #[v] w fun e w' => e = .returned (.int .i64 (lenL fs)) ∧ w' = w := by
  obtain ⟨a, c, rfl, hc1, hc2⟩ := h.shape
  unfold maxLen at hc2
  obtain ⟨N, hN⟩ : ∃ N, N = fs.length := ⟨_, rfl⟩
  rw [← hN] at h hc1 ⊢
  have HN := Lib.hid hN
  have HM := Lib.hid hm
  clear hN hm
  go_enter Try.func17, Try.ntmps17
  go_wp2_with fail
  go_loopg [3] N (fun q s3 wr => ∃ k : Nat, k + q = N ∧ s3 = .int .i64 k ∧ Hid (lenL fs = lenL (fs.drop k)) ∧ wr = w)
  case atStart => exact ⟨0, by omega, rfl, Lib.hid rfl, rfl⟩
  case round =>
    obtain ⟨k, hkq, rfl, HL, rfl⟩ := hrel
    have HKQ := Lib.hid hkq
    have hk : k ≤ N := by omega
    clear hkq
    by_cases hlt : k < N
    · obtain ⟨f, hf⟩ := fld_at (fs := fs) (k := k) (by rw [← HN.out]; exact hlt)
      obtain ⟨b, off, rfl, hbl, hcell⟩ := h.at_ (i := k) (by rw [← HN.out]; exact hlt)
      obtain ⟨c0, c1⟩ := hcell f hf
      have HZ := Lib.hid (HM.out.at_ hf).2
      have hl := HL.out
      rw [drop_at hf, lenL] at hl
      obtain ⟨e1, he1⟩ : ∃ e1, eqB f.1 nLen = e1 := ⟨_, rfl⟩
      rw [he1] at hl
      have HE := Lib.hid hl
      simp only [eqB, nLen, tx, ByteArray.toList_mk] at he1
      clear hcell hf hl
      cases e1
      · go_wp2_with fail
        go_roundg (N - (k + 1))
        case measure => have := HKQ.out; omega
        case rel => exact ⟨k + 1, by omega, by go_num, HE, rfl⟩
      · go_wp2_with fail
        refine (refNumber_any _ _ HZ.out).mono ?_
        rintro e w1 ⟨rfl, rfl⟩
        go_wp2_with fail
        go_ret
        exact ⟨by rw [HE.out]; rfl, rfl⟩
    · obtain rfl : k = N := by omega
      have HE := Lib.hid (show lenL fs = -1 by rw [HL.out, List.drop_of_length_le (by rw [HN.out]; exact Nat.le_refl _)]; rfl)
      clear hlt hk
      go_wp2_with fail
      go_ret
      exact ⟨by rw [HE.out]; rfl, rfl⟩
set_option maxHeartbeats 1000000 in
theorem refVal_any (v : Value) (fs : List Fd) (n : Nat) (nm : ByteArray) (w : World) (h : SlD w v fs) (hn : n ≤ fs.length) :
    Calls Try.prog 25 #[v, .int .i64 (n : Int), .string nm] w fun e w' => e = .returned (.tuple #[.string (valOf nm v0 (fs.take n)).1, .int .i64 ((valOf nm v0 (fs.take n)).2 : Nat)]) ∧ w' = w := by
  obtain ⟨a, c, rfl, hc1, hc2⟩ := h.shape
  unfold maxLen at hc2
  obtain ⟨N, hN⟩ : ∃ N, N = fs.length := ⟨_, rfl⟩
  rw [← hN] at h hc1 hn ⊢
  have HN := Lib.hid hN
  clear hN
  go_enter Try.func25, Try.ntmps25
  go_wp2_with fail
  go_loopg [8, 9, 10] n (fun q s8 s9 s10 wr => ∃ k : Nat, k + q = n ∧ s10 = .int .i64 k ∧ (∃ (x : ByteArray) (z : Nat), s8 = .string x ∧ s9 = .int .i64 z ∧ Hid (valOf nm v0 (fs.take k) = (x, z))) ∧ wr = w)
  case atStart => exact ⟨0, by omega, rfl, ⟨_, 0, rfl, rfl, Lib.hid rfl⟩, rfl⟩
  case round =>
    obtain ⟨k, hkq, rfl, ⟨x, z, rfl, rfl, HL⟩, rfl⟩ := hrel
    have HKQ := Lib.hid hkq
    have hk : k ≤ n := by omega
    clear hkq
    by_cases hlt : k < n
    · obtain ⟨f, hf⟩ := fld_at (fs := fs) (k := k) (by rw [← HN.out]; omega)
      obtain ⟨b, off, rfl, hbl, hcell⟩ := h.at_ (i := k) (by rw [← HN.out]; omega)
      obtain ⟨c0, c1⟩ := hcell f hf
      have hl : valOf nm v0 (fs.take (k + 1)) = bif eqB f.1 nm then (f.2, z + 1) else (x, z) := by rw [take_at hf, valOf_append, HL.out]
      have hz : z ≤ k := by
        have := valOf_le nm (fs.take k) v0
        rw [HL.out, List.length_take] at this
        simp only [v0] at this
        omega
      obtain ⟨e1, he1⟩ : ∃ e1, eqB f.1 nm = e1 := ⟨_, rfl⟩
      rw [he1] at hl
      have HE := Lib.hid hl
      simp only [eqB] at he1
      clear hcell hf hl
      cases e1
      · go_wp2_with fail
        go_roundg (n - (k + 1))
        case measure => have := HKQ.out; omega
        case rel => exact ⟨k + 1, by omega, by go_num, ⟨x, z, rfl, rfl, HE⟩, rfl⟩
      · go_wp2_with fail
        go_roundg (n - (k + 1))
        case measure => have := HKQ.out; omega
        case rel => exact ⟨k + 1, by omega, by go_num, ⟨f.2, z + 1, rfl, by go_num, HE⟩, rfl⟩
    · obtain rfl : k = n := by omega
      clear hlt hk
      go_wp2_with fail
      go_ret2
      exact ⟨by rw [HL.out]; rfl, rfl⟩
theorem SlD.cells {w : World} {b off n cap : Nat} {fs : List Fd} (h : SlD w (.slice (some ⟨b, off, none⟩) n cap) fs) {i : Nat} {f : Fd} (hf : fs[i]? = some f) :
    b < w.heap.size ∧ w.cell? ⟨b, off + i * 2, none⟩ = some (.string f.1) ∧ w.cell? ⟨b, off + i * 2 + 1, none⟩ = some (.string f.2) := by
  obtain ⟨b', off', e, hb, hc⟩ := h.at_ (List.getElem?_eq_some_iff.1 hf).1
  simp only [Option.some.injEq, Addr.mk.injEq, and_true] at e
  obtain ⟨rfl, rfl⟩ := e
  exact ⟨hb, hc f hf⟩
/-- do all of a list tell the same number as this one? -/
def agreeT (f : Fd) (l : List Fd) : Prop := ∀ g ∈ l, agree2 f g = true
theorem agreeT_next {fs : List Fd} {j : Nat} {f g : Fd} (hg : fs[j]? = some g) (h : agreeT f (fs.take j)) (ha : agree2 f g = true) : agreeT f (fs.take (j + 1)) := by
  rw [take_at hg]
  intro x hx
  rw [List.mem_append, List.mem_singleton] at hx
  rcases hx with hx | rfl
  · exact h x hx
  · exact ha
theorem agree2_comm (f g : Fd) : agree2 f g = agree2 g f := by
  unfold agree2
  rw [show (numB (nums f.2) != numB (nums g.2)) = (numB (nums g.2) != numB (nums f.2)) from bne_comm]
  cases eqB f.1 nLen <;> cases eqB g.1 nLen <;> rfl
theorem agree2_self (f : Fd) : agree2 f f = true := by unfold agree2; simp
theorem trailB_go {fs : List Fd} {k : Nat} {f : Fd} (hf : fs[k]? = some f) (h : trailB (fs.take k) = true) (ho : ordF f = true) (ha : agreeT f (fs.take k)) : trailB (fs.take (k + 1)) = true := by
  unfold trailB at h ⊢
  rw [Bool.and_eq_true, decide_eq_true_iff] at h ⊢
  rw [take_at hf]
  refine ⟨by rw [List.all_append, h.1]; simp [ho], fun x hx y hy => ?_⟩
  rw [List.mem_append, List.mem_singleton] at hx hy
  rcases hx with hx | rfl
  · rcases hy with hy | rfl
    · exact h.2 x hx y hy
    · rw [agree2_comm]; exact ha x hx
  · rcases hy with hy | rfl
    · exact ha y hy
    · exact agree2_self _
theorem trailB_ord {fs : List Fd} {k : Nat} {f : Fd} (hf : fs[k]? = some f) (ho : ordF f = false) : trailB fs = false := by
  unfold trailB
  rw [show fs.all ordF = false by
    rw [Bool.eq_false_iff]; intro h
    have := List.all_eq_true.1 h f (List.mem_of_getElem? hf)
    rw [ho] at this; cases this]
  rfl
theorem trailB_two {fs : List Fd} {k j : Nat} {f g : Fd} (hf : fs[k]? = some f) (hg : fs[j]? = some g) (ha : agree2 f g = false) : trailB fs = false := by
  unfold trailB
  rw [decide_eq_false (fun h => by
    have := h f (List.mem_of_getElem? hf) g (List.mem_of_getElem? hg)
    rw [ha] at this; cases this), Bool.and_false]
set_option maxHeartbeats 1000000 in
theorem refTrail_any (v : Value) (fs : List Fd) (w : World) (h : SlD w v fs) (hm : Mild fs) :
    Calls Try.prog 13 #[v] w fun e w' => e = .returned (.bool (trailB fs)) ∧ Below w.heap.size w w' := by
  obtain ⟨a, c, rfl, hc1, hc2⟩ := h.shape
  unfold maxLen at hc2
  obtain ⟨N, hN⟩ : ∃ N, N = fs.length := ⟨_, rfl⟩
  rw [← hN] at h hc1 ⊢
  have HN := Lib.hid hN
  have HM := Lib.hid hm
  clear hN hm
  go_enter Try.func13, Try.ntmps13
  go_wp2_with fail
  go_loopg [3] N (fun q s3 wr => ∃ k : Nat, k + q = N ∧ s3 = .int .i64 k ∧ Hid (trailB (fs.take k) = true) ∧ Hid (Below w.heap.size w wr))
  case atStart => exact ⟨0, by omega, rfl, Lib.hid rfl, Lib.hid (Below.refl _ _)⟩
  case round =>
    obtain ⟨k, hkq, rfl, HL, HB⟩ := hrel
    have HKQ := Lib.hid hkq
    have hk : k ≤ N := by omega
    clear hkq
    by_cases hlt : k < N
    · obtain ⟨f, hf⟩ := fld_at (fs := fs) (k := k) (by rw [← HN.out]; exact hlt)
      obtain ⟨b, off, rfl, hbl, hcell⟩ := h.at_ (i := k) (by rw [← HN.out]; exact hlt)
      have hcell0 := hcell f hf
      obtain ⟨c0, c1⟩ := And.intro ((HB.out.cell (p := ⟨b, off + k * 2, none⟩) hbl).trans hcell0.1) ((HB.out.cell (p := ⟨b, off + k * 2 + 1, none⟩) hbl).trans hcell0.2)
      have HC := Lib.hid hcell0
      have HZ := Lib.hid (HM.out.at_ hf)
      have HF := Lib.hid hf
      obtain ⟨o, ho⟩ : ∃ o, ordF f = o := ⟨_, rfl⟩
      have HO := Lib.hid ho
      clear hcell hcell0 hf ho
      go_wp2_with fail
      refine (refOrd_any _ _ _ HZ.out.1 HZ.out.2).mono ?_
      rintro e w1 ⟨rfl, hb1⟩
      rw [show (f.1, f.2) = f from rfl, HO.out]
      have HB1 := Lib.hid (HB.out.trans (hb1.mono HB.out.size))
      clear hb1
      cases o
      · go_wp2_with fail
        go_ret
        exact ⟨by rw [trailB_ord HF.out HO.out]; rfl, HB1.out⟩
      · go_wp2_with fail
        go_loopg [5] k (fun q s5 wr2 => ∃ j : Nat, j + q = k ∧ s5 = .int .i64 j ∧ Hid (agreeT f (fs.take j)) ∧ Hid (Below w.heap.size w wr2))
        case atStart => exact ⟨0, by omega, rfl, Lib.hid (fun _ hx => by rw [List.take_zero] at hx; cases hx), HB1⟩
        case round =>
          obtain ⟨j, hjq, rfl, HA, HB2⟩ := hrel
          have HJQ := Lib.hid hjq
          have hj : j ≤ k := by omega
          clear hjq
          by_cases hlj : j < k
          · obtain ⟨g, hg⟩ := fld_at (fs := fs) (k := j) (by rw [← HN.out]; omega)
            have hx := (h.below HB2.out).cells hg
            obtain ⟨x0, x1⟩ := hx.2
            obtain ⟨y0, y1⟩ := ((h.below HB2.out).cells HF.out).2
            have hi1 := run_index_sl (P := Try.prog) (t := 22) (s := 2) slcFd (fun _ => by kernel_rfl) b off N c k hlt
            have hi2 := run_index_sl (P := Try.prog) (t := 22) (s := 2) slcFd (fun _ => by kernel_rfl) b off N c j (by omega)
            have HY : Hid (agree2 f g = true → agreeT f (fs.take (j + 1))) := fun q => agreeT_next hg HA.out q
            have HX : Hid (agree2 f g = false → trailB fs = false) := fun q => trailB_two HF.out hg q
            have H1 : Hid (∀ W, Calls Try.prog 29 #[.string f.2] W fun e w' => e = .returned (.int .i64 (numB (nums f.2))) ∧ w' = W) := fun W => refNumber_any _ W HZ.out.2
            have H2 : Hid (∀ W, Calls Try.prog 29 #[.string g.2] W fun e w' => e = .returned (.int .i64 (numB (nums g.2))) ∧ w' = W) := fun W => refNumber_any _ W (HM.out.at_ hg).2
            obtain ⟨p1, hp1⟩ : ∃ p1, numB (nums f.2) = p1 := ⟨_, rfl⟩
            obtain ⟨p2, hp2⟩ : ∃ p2, numB (nums g.2) = p2 := ⟨_, rfl⟩
            unfold agree2 at HY HX
            rw [hp1, hp2] at HY HX
            rw [hp1] at H1
            rw [hp2] at H2
            obtain ⟨b1, e1⟩ : ∃ q, eqB f.1 nLen = q := ⟨_, rfl⟩
            obtain ⟨b2, e2⟩ : ∃ q, eqB g.1 nLen = q := ⟨_, rfl⟩
            obtain ⟨b3, e3⟩ : ∃ q, (p1 != p2) = q := ⟨_, rfl⟩
            rw [e1, e2, e3] at HY HX
            simp only [eqB, nLen, tx, ByteArray.toList_mk] at e1 e2
            clear hg hx hp1 hp2 c0 c1
            cases b1
            · go_wp2_with fail
              go_quiet (fail)
              go_wp2_with fail
              go_roundg (k - (j + 1))
              case measure => have := HJQ.out; omega
              case rel => exact ⟨j + 1, by omega, by go_num, HY.out (by trivial), below_drewN HB2.out _⟩
            cases b2
            · go_wp2_with fail
              go_quiet (fail)
              go_wp2_with fail
              go_roundg (k - (j + 1))
              case measure => have := HJQ.out; omega
              case rel => exact ⟨j + 1, by omega, by go_num, HY.out (by trivial), below_drewN HB2.out _⟩
            cases b3
            · go_wp2_with fail
              go_quiet ((go_at_call 29; first | with_reducible exact Calls.quiet_of_same (H1.out _) | with_reducible exact Calls.quiet_of_same (H2.out _)))
              go_wp2_with fail
              go_roundg (k - (j + 1))
              case measure => have := HJQ.out; omega
              case rel => exact ⟨j + 1, by omega, by go_num, HY.out (by trivial), below_drewN HB2.out _⟩
            · go_wp2_with fail
              go_quiet ((go_at_call 29; first | with_reducible exact Calls.quiet_of_same (H1.out _) | with_reducible exact Calls.quiet_of_same (H2.out _)))
              go_wp2_with fail
              go_ret
              exact ⟨by rw [HX.out (by trivial)]; rfl, below_drewN HB2.out _⟩
          · obtain rfl : j = k := by omega
            have HR := Lib.hid (trailB_go HF.out HL.out HO.out HA.out)
            clear hlj hj c0 c1
            go_wp2_with fail
            go_roundg (N - (j + 1))
            case measure => have := HKQ.out; omega
            case rel => exact ⟨j + 1, by omega, by go_num, HR, HB2⟩
    · obtain rfl : k = N := by omega
      have HE := Lib.hid (show trailB fs = true by have := HL.out; rwa [List.take_of_length_le (by rw [HN.out]; exact Nat.le_refl _)] at this)
      clear hlt hk
      go_wp2_with fail
      go_ret
      exact ⟨by rw [HE.out]; rfl, HB.out⟩
end Go.Proofs.Ytabonhiolcjnnaa
