
/-
  Layer 14's reference: Push, Drain, Fill.
-/
import Derived.Test.YtfdkbaekohaaoaaRef02Enc
import Derived.Test.YtfdkbaekohaaoaaFrameList
import Derived.Test.YtfdkbaekohaaoaaSame
import Derived.Deep.LoopGhost
import Derived.BigQuiet
import Derived.Deep.QuietTactic
namespace Go.Proofs.Ytfdkbaekohaaoaa
set_option maxRecDepth 20000
open Go.RowKit

/-- bytes, with a frame's behind them -/
def pushL (bs : List Int) (f : Fr) : List Int := if f.right then bs ++ f.enc else bs
def pushE (f : Fr) : Int := if f.right then 0 else 1
/-- how many bytes go -/
def drainN (n : Int) (len : Nat) : Nat := if n < 0 then 0 else if (len : Int) < n then len else n.toNat
/-- what waits, and how many were pushed -/
def fillL (n : Int) : List Int → List Fr → List Int × Nat
  | bs, [] => (bs, 0)
  | bs, f :: r => if n ≤ (bs.length : Int) then (bs, 0) else if f.right then ((fillL n (bs ++ f.enc) r).1, (fillL n (bs ++ f.enc) r).2 + 1) else (bs, 0)

/-- the value's block is the old one's, or new -/
def Fm (w w' : World) (v x : Value) : Prop := ∀ g, x.ownBlock = some g → v.ownBlock = some g ∨ (w.heap.size ≤ g ∧ g < w'.heap.size)
theorem Fm.refl (w w' : World) (v : Value) : Fm w w' v v := fun _ h => .inl h
theorem Fm.trans {w w1 w2 : World} {v x y : Value} (h : Fm w w1 v x) (hs : w.heap.size ≤ w1.heap.size) (hs2 : w1.heap.size ≤ w2.heap.size) (h2 : Fm w1 w2 x y) : Fm w w2 v y := fun g hg =>
  (h2 g hg).elim (fun e => (h g e).imp_right (fun e => ⟨e.1, Nat.lt_of_lt_of_le e.2 hs2⟩)) (fun e => .inr ⟨Nat.le_trans hs e.1, e.2⟩)
theorem sliced_own {a : Option Addr} {l h m s n c : Nat} : ∀ g, (sliced a l h m s).ownBlock = some g → (Value.slice a n c).ownBlock = some g := fun g hg => by
  unfold sliced at hg
  split at hg
  · cases a with
    | none => cases hg
    | some a => exact hg
  · cases a with
    | none => cases hg
    | some a =>
      simp only [Value.ownBlock, Option.map_some, Addr.add] at hg ⊢
      split at hg <;> exact hg
theorem upto_own {P : Program} {t : TypeId} (ht : P.underlying t = some (.slice (P.elem t))) (he : ∀ w, (sizeOf (P.elem t)).run P w = .ok 1 w) {a : Option Addr} {n cap : Nat} {hi : Int} (h0 : 0 ≤ hi) (h1 : hi ≤ (cap : Int)) {v : Value} (w : World)
    (hv : ∀ (kl : IntKind) (w1 : World), (Instr.slice t (.slice a n cap) none (some (.int kl hi)) none).run P w1 = .ok v w1) : ∀ g, v.ownBlock = some g → (Value.slice a n cap).ownBlock = some g := by
  have h := hv .i64 w
  rw [run_slice_h w t a n cap ht .i64 hi h0 h1, he] at h
  have e : sliced a 0 hi.toNat cap 1 = v := by injection h
  rw [← e]
  exact sliced_own
theorem from_own {P : Program} {t : TypeId} (ht : P.underlying t = some (.slice (P.elem t))) (he : ∀ w, (sizeOf (P.elem t)).run P w = .ok 1 w) {a : Option Addr} {n cap : Nat} {lo : Int} (h0 : 0 ≤ lo) (h1 : lo ≤ (n : Int)) {v : Value} (w : World)
    (hv : ∀ (kl : IntKind) (w1 : World), (Instr.slice t (.slice a n cap) (some (.int kl lo)) none none).run P w1 = .ok v w1) : ∀ g, v.ownBlock = some g → (Value.slice a n cap).ownBlock = some g := by
  have h := hv .i64 w
  rw [run_slice_l w t a n cap ht .i64 lo h0 h1, he] at h
  have e : sliced a lo.toNat n cap 1 = v := by injection h
  rw [← e]
  exact sliced_own
set_option maxHeartbeats 1000000 in
theorem refPush14_any (v fv : Value) (bs : List Int) (f : Fr) (w : World) (hv : Sl .u8 w v bs) (hf : FrV w fv f) (hl : bs.length ≤ 100000000) (hp : f.pay.length ≤ 100000000) :
    Calls Try.prog 14 #[v, fv] w fun e w' => ∃ x, e = .returned (.tuple #[x, .int .i64 (pushE f)]) ∧ Sl .u8 w' x (pushL bs f) ∧ Below w.heap.size w w' ∧ Fm w w' v x := by
  obtain ⟨pv, rfl, hpv⟩ := id hf
  obtain ⟨a, c, rfl, _⟩ := id hv
  obtain ⟨ap, cp, rfl, _⟩ := id hpv
  obtain ⟨W1, hW1⟩ : ∃ W1, w.alloc (.cells #[.int .i64 f.kind, .int .i64 f.flags, .int .i64 f.stream, .slice ap f.pay.length cp] 40) = W1 := ⟨_, rfl⟩
  have HB1 := Lib.hid (show Below w.heap.size w W1 by rw [← hW1]; exact (Below.refl _ _).alloc (Nat.le_refl _) _)
  have hbx : Bx W1 w.heap.size 40 f (.slice ap f.pay.length cp) := by rw [← hW1]; exact Bx.new _ _ _ _
  have c0 := hbx.c0
  have c1 := hbx.c1
  have c2 := hbx.c2
  have c3 := hbx.c3
  have hsz := hbx.lt
  have HF := Lib.hid (hf.below HB1.out)
  have HV := Lib.hid (hv.below HB1.out)
  have HPF := Lib.hid (hpv.fit)
  have HL := Lib.hid (And.intro hl hp)
  clear hv hf hpv hbx hl hp
  by_cases hr : f.right
  · have HR := Lib.hid hr
    have HE := Lib.hid (show pushE f = 0 ∧ pushL bs f = bs ++ f.enc from ⟨if_pos hr, if_pos hr⟩)
    clear hr
    go_enter Try.func14, Try.ntmps14
    go_wp2_with fail
    refine (refEncode_yes _ f W1 HF.out HR.out).mono ?_
    rintro e w2 ⟨v2, rfl, ho2, hb2⟩
    have HB2 := Lib.hid (HB1.out.trans (hb2.mono HB1.out.size))
    have HV2 := Lib.hid (HV.out.below hb2)
    have HO2 := Lib.hid ho2
    obtain ⟨a2, k2, rfl, _⟩ := owned_shape ho2
    have HS2 := Lib.hid (Sl.owned ho2 (Fr.enc_fit HR.out HPF.out) (by rw [Fr.enc_length]; have := HL.out.2; unfold maxLen; omega))
    clear c0 c1 c2 c3 hsz hW1 ho2 hb2
    have HLE := Lib.hid (Fr.enc_length f)
    obtain ⟨EN, hEN⟩ : ∃ EN, EN = f.enc := ⟨_, rfl⟩
    rw [← hEN] at HS2 HE HO2 HLE ⊢
    clear hEN
    obtain ⟨W3, hW3⟩ : ∃ W3, w2.alloc (.cells #[] 5) = W3 := ⟨_, rfl⟩
    have HB3 := Lib.hid (show Below w2.heap.size w2 W3 ∧ W3.ownsRow w.heap.size 5 1 (.slice (some ⟨w2.heap.size, 0, none⟩) 0 0) 0 (([] : List Int).map (Value.int .u8)) from by
      rw [← hW3]
      exact ⟨(Below.refl _ _).alloc (Nat.le_refl _) _, owned_lit [] HB2.out.size rfl rfl rfl (by simp)⟩)
    have HX := Lib.hid (show w.heap.size ≤ W3.heap.size from Nat.le_trans HB2.out.size HB3.out.1.size)
    go_wp2_with (first
      | (at_builtin; refine app_ints rfl (.tmp 16) (.tmp 17) 27 rfl w.heap.size 5 .u8 1 Try.underlying27 Try.info5' _ _ ([] : List Int) rfl HB3.out.2 _ _ rfl (HV2.out.below HB3.out.1) (by have := HL.out.1; simp; omega) (by have := HL.out.1; unfold maxLen; simp; omega) HX.out ?_; intro v4 w4 own4 hc4 hg4; simp only [List.length_nil, Nat.zero_add, List.nil_append] at own4; obtain ⟨a4, k4, rfl, _⟩ := owned_shape own4; have HS4 := Lib.hid ((HS2.out.below HB3.out.1).kept hg4 (fun g hg e => by have h1 := (HO2.out.lt g hg).2; have h2 : w2.heap.size = g := Option.some.inj e; omega)); have HB4 := Lib.hid ((HB2.out.trans (HB3.out.1.mono HB2.out.size)).trans hc4))
      | (at_builtin; refine app_ints rfl (.tmp 18) (.tmp 19) 27 rfl w.heap.size 5 .u8 1 Try.underlying27 Try.info5' _ _ bs rfl own4 _ _ rfl HS4.out (by have := HL.out; have := HLE.out; simp; omega) (by have := HL.out; have := HLE.out; unfold maxLen; simp; omega) HB4.out.size ?_; intro v5 w5 own5 hc5 hg5))
    go_ret2
    refine ⟨_, by rw [HE.out.1]; rfl, ?_, HB4.out.trans hc5, fun g hg => .inr (own5.lt g hg)⟩
    rw [HE.out.2]
    have := Sl.of_own own5 (Fit.append HV.out.fit HS4.out.fit) (by have := HL.out; have := HLE.out; unfold maxLen; simp; omega)
    exact this
  · have HR := Lib.hid hr
    have HE := Lib.hid (show pushE f = 1 ∧ pushL bs f = bs from ⟨if_neg hr, if_neg hr⟩)
    clear hr
    go_enter Try.func14, Try.ntmps14
    go_wp2_with fail
    refine (refEncode_no _ f W1 HF.out HR.out).mono ?_
    rintro e w2 ⟨rfl, hb2⟩
    have HB2 := Lib.hid (HB1.out.trans (hb2.mono HB1.out.size))
    have HV2 := Lib.hid (HV.out.below hb2)
    clear c0 c1 c2 c3 hsz hW1 hb2
    go_wp2_with fail
    go_ret2
    refine ⟨_, by rw [HE.out.1]; rfl, ?_, HB2.out, Fm.refl _ _ _⟩
    rw [HE.out.2]
    exact HV2.out

theorem Try.sliceD14 : Try.prog.underlying 27 = some (.slice (Try.prog.elem 27)) := by kernel_rfl
theorem Try.sizeD14 (w : World) : (sizeOf (Try.prog.elem 27)).run Try.prog w = .ok 1 w := by kernel_rfl
theorem drainN_le (n : Int) (len : Nat) : drainN n len ≤ len := by unfold drainN; split; omega; split <;> omega
set_option maxHeartbeats 1000000 in
theorem refDrain14_any (v : Value) (bs : List Int) (n : Int) (w : World) (hv : Sl .u8 w v bs) :
    Calls Try.prog 9 #[v, .int .i64 n] w fun e w' => ∃ x y, e = .returned (.tuple #[x, y]) ∧ Sl .u8 w' x (bs.take (drainN n bs.length)) ∧ Sl .u8 w' y (bs.drop (drainN n bs.length)) ∧ (∃ k, w' = w.drewN k) ∧ Fm w w v x ∧ Fm w w v y := by
  obtain ⟨a, c, rfl, hcap, _⟩ := id hv
  by_cases h0 : n < 0
  · rw [show drainN n bs.length = (0 : Int).toNat from if_pos h0]
    obtain ⟨x, hx, hsx⟩ := Sl.upto Try.sliceD14 Try.sizeD14 hv 0 (by omega) (by omega)
    obtain ⟨y, hy, hsy⟩ := Sl.from_ Try.sliceD14 Try.sizeD14 hv 0 (by omega) (by omega)
    have HM := Lib.hid (show Fm w w (.slice a bs.length c) x ∧ Fm w w (.slice a bs.length c) y from ⟨fun g hg => .inl (upto_own Try.sliceD14 Try.sizeD14 (by omega) (by omega) w hx g hg), fun g hg => .inl (from_own Try.sliceD14 Try.sizeD14 (by omega) (by omega) w hy g hg)⟩)
    have HX := Lib.hid hsx
    have HY := Lib.hid hsy
    clear hsx hsy hv hcap
    obtain ⟨L, hL⟩ : ∃ L, bs.length = L := ⟨_, rfl⟩
    rw [hL] at hx hy HM ⊢
    clear hL
    have d0 : decide (n < 0) = true := decide_eq_true h0
    have d1 : decide ((L : Int) < 0) = false := decide_eq_false (by omega)
    clear h0
    go_enter Try.func9, Try.ntmps9
    go_wp2_with fail
    go_quiet (fail)
    go_wp2_with fail
    go_ret2
    exact ⟨_, _, rfl, HX.out.drewN _, HY.out.drewN _, ⟨_, rfl⟩, HM.out⟩
  · by_cases h1 : (bs.length : Int) < n
    · rw [show drainN n bs.length = (bs.length : Int).toNat from by unfold drainN; rw [if_neg h0, if_pos h1]; omega]
      obtain ⟨x, hx, hsx⟩ := Sl.upto Try.sliceD14 Try.sizeD14 hv (bs.length : Int) (by omega) (by omega)
      obtain ⟨y, hy, hsy⟩ := Sl.from_ Try.sliceD14 Try.sizeD14 hv (bs.length : Int) (by omega) (by omega)
      have HM := Lib.hid (show Fm w w (.slice a bs.length c) x ∧ Fm w w (.slice a bs.length c) y from ⟨fun g hg => .inl (upto_own Try.sliceD14 Try.sizeD14 (by omega) (by omega) w hx g hg), fun g hg => .inl (from_own Try.sliceD14 Try.sizeD14 (by omega) (by omega) w hy g hg)⟩)
      have HX := Lib.hid hsx
      have HY := Lib.hid hsy
      clear hsx hsy hv hcap
      obtain ⟨L, hL⟩ : ∃ L, bs.length = L := ⟨_, rfl⟩
      rw [hL] at hx hy h1 HX HY HM ⊢
      clear hL
      have d0 : decide (n < 0) = false := decide_eq_false h0
      have d1 : decide ((L : Int) < n) = true := decide_eq_true h1
      clear h0 h1
      go_enter Try.func9, Try.ntmps9
      go_wp2_with fail
      go_quiet (fail)
      go_wp2_with fail
      go_ret2
      exact ⟨_, _, rfl, HX.out.drewN _, HY.out.drewN _, ⟨_, rfl⟩, HM.out⟩
    · rw [show drainN n bs.length = n.toNat from by unfold drainN; rw [if_neg h0, if_neg h1]]
      obtain ⟨x, hx, hsx⟩ := Sl.upto Try.sliceD14 Try.sizeD14 hv n (by omega) (by omega)
      obtain ⟨y, hy, hsy⟩ := Sl.from_ Try.sliceD14 Try.sizeD14 hv n (by omega) (by omega)
      have HM := Lib.hid (show Fm w w (.slice a bs.length c) x ∧ Fm w w (.slice a bs.length c) y from ⟨fun g hg => .inl (upto_own Try.sliceD14 Try.sizeD14 (by omega) (by omega) w hx g hg), fun g hg => .inl (from_own Try.sliceD14 Try.sizeD14 (by omega) (by omega) w hy g hg)⟩)
      have HX := Lib.hid hsx
      have HY := Lib.hid hsy
      clear hsx hsy hv hcap
      obtain ⟨L, hL⟩ : ∃ L, bs.length = L := ⟨_, rfl⟩
      rw [hL] at hx hy h1 HM ⊢
      clear hL
      have d0 : decide (n < 0) = false := decide_eq_false h0
      have d1 : decide ((L : Int) < n) = false := decide_eq_false h1
      clear h0 h1
      go_enter Try.func9, Try.ntmps9
      go_wp2_with fail
      go_quiet (fail)
      go_wp2_with fail
      go_ret2
      exact ⟨_, _, rfl, HX.out.drewN _, HY.out.drewN _, ⟨_, rfl⟩, HM.out⟩

theorem fillL_step (n : Int) (bs : List Int) (f : Fr) (r : List Fr) (h : ¬ n ≤ (bs.length : Int)) (hr : f.right) : fillL n bs (f :: r) = ((fillL n (bs ++ f.enc) r).1, (fillL n (bs ++ f.enc) r).2 + 1) := by
  rw [fillL, if_neg h, if_pos hr]
theorem fillL_full (n : Int) (bs : List Int) (l : List Fr) (h : n ≤ (bs.length : Int)) : fillL n bs l = (bs, 0) := by
  cases l with
  | nil => rfl
  | cons f r => rw [fillL, if_pos h]
theorem fillL_bad (n : Int) (bs : List Int) (f : Fr) (r : List Fr) (h : ¬ n ≤ (bs.length : Int)) (hr : ¬ f.right) : fillL n bs (f :: r) = (bs, 0) := by
  rw [fillL, if_neg h, if_neg hr]
set_option maxHeartbeats 4000000 in
theorem refFill14_any (v lv : Value) (bs : List Int) (n : Int) (fs : List (Fr × Value)) (w : World) (hv : Sl .u8 w v bs) (hf : SlF w lv fs) (hl : bs.length ≤ 50000000) (hn : fs.length ≤ 1000) (hp : ∀ p ∈ fs, p.1.pay.length ≤ 10000) :
    Calls Try.prog 12 #[v, .int .i64 n, lv] w fun e w' => ∃ x, e = .returned (.tuple #[x, .int .i64 ((fillL n bs (fs.map (·.1))).2 : Nat)]) ∧ Sl .u8 w' x (fillL n bs (fs.map (·.1))).1 ∧ Below w.heap.size w w' ∧ Fm w w' v x := by
  obtain ⟨hfp, a, c, rfl, hc1, hc2, _⟩ := id hf
  unfold maxLen at hc2
  obtain ⟨N, hN⟩ : ∃ N, N = fs.length := ⟨_, rfl⟩
  rw [← hN] at hf hc1 hn ⊢
  have HN := Lib.hid hN
  have HF := Lib.hid hf
  have HP := Lib.hid (And.intro hl hp)
  have HV := Lib.hid (show Sl .u8 w v bs ∧ Below w.heap.size w w ∧ Fm w w v v from ⟨hv, Below.refl _ _, Fm.refl _ _ _⟩)
  clear hN hf hfp hl hp hv
  go_enter Try.func12, Try.ntmps12
  go_wp2_with fail
  go_loopg [8, 9, 10, 11] N (fun q s8 s9 s10 s11 wr => ∃ k : Nat, k + q = N ∧ s9 = .int .i64 k ∧ ∃ u xs, s8 = u ∧ Hid (Sl .u8 wr u xs ∧ Below w.heap.size w wr ∧ Fm w wr v u) ∧ Hid (fillL n bs (fs.map (·.1)) = ((fillL n xs ((fs.drop k).map (·.1))).1, (fillL n xs ((fs.drop k).map (·.1))).2 + k) ∧ xs.length ≤ 50000000 + k * 10009))
  case atStart => exact ⟨0, by omega, rfl, v, bs, rfl, HV, Lib.hid ⟨by simp, by have := HP.out.1; omega⟩⟩
  case round =>
    obtain ⟨k, hkq, rfl, u, xs, rfl, HW, HY⟩ := hrel
    have HKQ := Lib.hid hkq
    have hk : k ≤ N := by omega
    clear hkq HV
    obtain ⟨au, cu, rfl, _⟩ := id HW.out.1
    by_cases hlt : k < N
    · obtain ⟨p, hp⟩ : ∃ p, fs[k]? = some p := ⟨fs[k]'(by rw [← HN.out]; exact hlt), List.getElem?_eq_getElem (by rw [← HN.out]; exact hlt)⟩
      have HPP := Lib.hid hp
      have HD := Lib.hid (show (fs.drop k).map (·.1) = p.1 :: (fs.drop (k + 1)).map (·.1) from by
        have hk' : k < fs.length := by rw [← HN.out]; exact hlt
        rw [List.drop_eq_getElem_cons hk']
        have : fs[k] = p := (List.getElem?_eq_some_iff.1 hp).2
        rw [this]; rfl)
      obtain ⟨hfp, a', c', e', _, _, h3⟩ := HF.out.below HW.out.2.1
      simp only [Value.slice.injEq] at e'
      obtain ⟨rfl, -, rfl⟩ := e'
      rcases h3 with ⟨h3, _⟩ | ⟨b, off, rfl, hbl, hcell⟩
      · exfalso; rw [← HN.out] at h3; omega
      obtain ⟨g0, g1, g2, g3⟩ := hcell k p hp
      have hpm := List.mem_of_getElem? hp
      have HFV := Lib.hid (show FrV wr (.agg #[.int .i64 p.1.kind, .int .i64 p.1.flags, .int .i64 p.1.stream, p.2]) p.1 from ⟨_, rfl, hfp p hpm⟩)
      have HPL := Lib.hid (HP.out.2 p hpm)
      obtain ⟨pa, pc, hpv, _⟩ := hfp p hpm
      rw [hpv] at g3 HFV
      clear hcell hp hpm hpv hfp
      by_cases hge : n ≤ (xs.length : Int)
      · have d0 : decide (n ≤ (xs.length : Int)) = true := decide_eq_true hge
        have HE := Lib.hid (show fillL n bs (fs.map (·.1)) = (xs, k) from by rw [HY.out.1, fillL_full _ _ _ hge]; simp)
        clear hge g0 g1 g2 g3 hbl
        go_wp2_with fail
        go_ret2
        refine ⟨_, by rw [HE.out]; rfl, ?_, HW.out.2⟩
        rw [HE.out]
        exact HW.out.1
      · have d0 : decide (n ≤ (xs.length : Int)) = false := decide_eq_false hge
        have HG := Lib.hid hge
        clear hge
        go_wp2_with fail
        refine (refPush14_any _ _ xs p.1 wr HW.out.1 HFV.out (by have := HY.out.2; omega) (by have := HPL.out; omega)).mono ?_
        rintro e w2 ⟨x, rfl, hs, hb, hm⟩
        have HMX := Lib.hid (HW.out.2.2.trans HW.out.2.1.size hb.size hm)
        clear g0 g1 g2 g3 hbl d0
        by_cases hr : p.1.right
        · rw [show pushE p.1 = 0 from if_pos hr]
          rw [show pushL xs p.1 = xs ++ p.1.enc from if_pos hr] at hs
          have HS2 := Lib.hid (show Sl .u8 w2 x (xs ++ p.1.enc) ∧ Below w.heap.size w w2 ∧ Fm w w2 v x from ⟨hs, HW.out.2.1.trans (hb.mono HW.out.2.1.size), HMX.out⟩)
          have HE := Lib.hid (show fillL n bs (fs.map (·.1)) = ((fillL n (xs ++ p.1.enc) ((fs.drop (k + 1)).map (·.1))).1, (fillL n (xs ++ p.1.enc) ((fs.drop (k + 1)).map (·.1))).2 + (k + 1)) ∧ (xs ++ p.1.enc).length ≤ 50000000 + (k + 1) * 10009 from by
            refine ⟨?_, ?_⟩
            · rw [HY.out.1, HD.out, fillL_step _ _ _ _ (Int.not_le.2 HG.out) hr]
              simp [Nat.add_assoc, Nat.add_comm 1 k]
            · have h1 := HY.out.2
              have h2 := HPL.out
              rw [List.length_append, Fr.enc_length]
              omega)
          clear hs hb hr hm HMX
          go_wp2_with fail
          go_roundg (N - (k + 1))
          case measure => have := HKQ.out; omega
          case rel => exact ⟨k + 1, by omega, by go_num, x, _, rfl, HS2, HE⟩
        · rw [show pushE p.1 = 1 from if_neg hr]
          have HE := Lib.hid (show fillL n bs (fs.map (·.1)) = (xs, k) from by rw [HY.out.1, HD.out, fillL_bad _ _ _ _ (Int.not_le.2 HG.out) hr]; simp)
          have HS2 := Lib.hid (show Sl .u8 w2 (.slice au xs.length cu) xs ∧ Below w.heap.size w w2 ∧ Fm w w2 v (.slice au xs.length cu) from ⟨HW.out.1.below hb, HW.out.2.1.trans (hb.mono HW.out.2.1.size), fun g hg => (HW.out.2.2 g hg).imp_right (fun e => ⟨e.1, Nat.lt_of_lt_of_le e.2 hb.size⟩)⟩)
          clear hs hb hr hm HMX
          go_wp2_with fail
          go_ret2
          refine ⟨_, by rw [HE.out]; rfl, ?_, HS2.out.2⟩
          rw [HE.out]
          exact HS2.out.1
    · obtain rfl : k = N := by omega
      have HE := Lib.hid (show fillL n bs (fs.map (·.1)) = (xs, k) from by
        rw [HY.out.1, List.drop_of_length_le (by rw [HN.out]; exact Nat.le_refl _)]
        simp [fillL])
      clear hlt hk
      go_wp2_with fail
      go_ret2
      refine ⟨_, by rw [HE.out]; rfl, ?_, HW.out.2⟩
      rw [HE.out]
      exact HW.out.1
end Go.Proofs.Ytfdkbaekohaaoaa
