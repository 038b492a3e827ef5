
/-
  Layer 17: the law StreamsOnce (written by wip/tools/gen17d.py).
-/
import Derived.Test.YtcompnndnelamaaLaw17o
import Derived.Test.YtcompnndnelamaaLaw17b
import Derived.Test.YtcompnndnelamaaAppAt
import Derived.Deep.CutRange
namespace Go.Proofs.Ytcompnndnelamaa
set_option maxRecDepth 20000
open Go.RowKit

theorem Sl.new1 {w : World} {n : Int} (h : (Lit.int .i64 n).wf = true) : Below w.heap.size w (w.alloc (.cells #[.int .i64 n] 3)) ∧ Sl .i64 (w.alloc (.cells #[.int .i64 n] 3)) (.slice (some ⟨w.heap.size, 0, none⟩) 1 1) [n] :=
  ⟨(Below.refl _ _).alloc (Nat.le_refl _) _, Sl.lit' [n] rfl rfl rfl (by intro z hz; rw [List.mem_singleton] at hz; rw [hz]; exact h) (by unfold maxLen; simp)⟩
theorem at0_right (xs ys : List Int) (k : Nat) : at0 (xs ++ ys) (xs.length + k) = at0 ys k := by simp [at0, List.getD_eq_getElem?_getD, List.getElem?_append_right]
theorem sep17_new {T : Nat} {B : Nat → Prop} {s : St17} {w W : World} (h1 : TbAt W T B s) (h2 : ∀ g, B g → w.heap.size ≤ g) (hs : w.heap.size ≤ W.heap.size) : Sep w.heap.size (onB B (.slice none 0 0) (.slice none 0 0) (.slice none 0 0)) W := by
  have h0 : ∀ i g, onB B (.slice none 0 0) (.slice none 0 0) (.slice none 0 0) i g → i = 0 ∧ B g := fun i g hg => by
    match i, hg with
    | 0, hg => exact ⟨rfl, hg⟩
    | 1, hg => cases hg
    | 2, hg => cases hg
    | 3, hg => cases hg
  exact ⟨fun i g hg => h1.lt g (h0 i g hg).2, fun i g hg => h2 g (h0 i g hg).2, fun i j g hij x y => hij ((h0 i g x).1.trans (h0 j g y).1.symm), hs⟩
set_option maxHeartbeats 16000000 in
theorem once17_any (p q : Int) (v : Value) (ys : List A17) (w : World) (h : SlA17 w v ys) (hp0 : 0 ≤ p) (hp1 : p ≤ 255) (hq0 : 0 ≤ q) (hq1 : q ≤ 255) :
    Calls Try.prog 4 #[.agg #[.int .u8 p, .int .u8 q], v] w fun e w' => e = .returned (.bool true) ∧ Below w.heap.size w w' := by
  obtain ⟨a, c, rfl, hc1, hc2⟩ := h.1.shape
  unfold maxLen at hc2
  obtain ⟨N, hN⟩ : ∃ N, ys.length = N := ⟨_, rfl⟩
  rw [hN] at h hc1 ⊢
  obtain ⟨w1, hw1⟩ : ∃ w1, w.alloc (.cells #[.int .u8 p, .int .u8 q] 43) = w1 := ⟨_, rfl⟩
  have HB1 := Lib.hid (show Below w.heap.size w w1 ∧ w1.heap[w.heap.size]? = some (.cells #[.int .u8 p, .int .u8 q] 43 (0, 0)) from by rw [← hw1]; exact ⟨(Below.refl _ _).alloc (Nat.le_refl _) _, heap_alloc_new w _⟩)
  have HN := Lib.hid hN
  have HS := Lib.hid (h.below HB1.out.1)
  have b0 := blk_cell (j := 0) HB1.out.2 rfl
  have b1 := blk_cell (j := 1) HB1.out.2 rfl
  have b2 := (Array.getElem?_eq_some_iff.1 HB1.out.2).1
  have hN0 : N ≤ 9223372036854775807 := by omega
  clear hN h
  by_cases h150 : 150 < N
  · have d0 : decide ((150 : Int) < (N : Int)) = true := decide_eq_true (by omega)
    have d1 : decide (150 < N) = true := decide_eq_true h150
    clear h150
    go_enter Try.func4, Try.ntmps4
    go_wp2_with fail
    refine (alive17 _).mono ?_
    rintro e w2 ⟨rfl, hb2⟩
    have HB2 := Lib.hid (HB1.out.1.trans (hb2.mono HB1.out.1.size))
    clear hb2
    go_wp2_with fail
    go_ret
    exact ⟨rfl, HB2.out⟩
  have d0 : decide ((150 : Int) < (N : Int)) = false := decide_eq_false (by omega)
  have d1 : decide (150 < N) = false := decide_eq_false h150
  have h151 : N ≤ 150 := by omega
  have HPQ := Lib.hid (show 0 ≤ p % 101 ∧ p % 101 ≤ 100 ∧ 0 ≤ q % 101 ∧ q % 101 ≤ 100 by omega)
  clear h150
  go_enter Try.func4, Try.ntmps4
  go_wp2_with fail
  generalize p % 101 = m1 at HPQ ⊢
  generalize q % 101 = m2 at HPQ ⊢
  refine (pNew17_yes m1 m2 _ HPQ.out).mono ?_
  rintro e w2 ⟨T, B0, rfl, h1, h2, hb2⟩
  have HP0 := Lib.hid (show On17 w1 w2 T B0 (St17.new m1 m2) (.slice none 0 0) [] (.slice none 0 0) [] (.slice none 0 0) [] from
    ⟨h1, World.ownsRow_nil _ _ _ _, World.ownsRow_nil _ _ _ _, World.ownsRow_nil _ _ _ _, hb2, sep17_new h1 h2 hb2.size⟩)
  have HI0 := Lib.hid (In17.new (most := m1) (mem := m2) HPQ.out.1 HPQ.out.2.2.1)
  clear hb2 b0 b1 b2 hw1 h1 h2 hp0 hp1 hq0 hq1
  go_wp2_with fail
  clear d0 d1
  go_loopg [9, 10, 11, 12] N (fun m s9 s10 s11 s12 wr => ∃ k : Nat, k + m = N ∧ s12 = .int .i64 k ∧ ∃ s B xo xl, Hid (On17 w1 wr T B s s9 xo s10 s.A s11 xl) ∧ Hid (In17 m1 m2 s xo xl ∧ xo.length ≤ k ∧ xl.length ≤ k ∧ s.A.length ≤ k))
  case atStart => exact ⟨0, by omega, rfl, _, _, _, _, HP0, Lib.hid ⟨HI0.out, by simp, by simp, by simp [St17.new]⟩⟩
  case round =>
    obtain ⟨k, hkq, rfl, s, B, xo, xl, HP, HI⟩ := hrel
    have HKQ := Lib.hid hkq
    have hk : k ≤ N := by omega
    clear hkq HP0 HI0
    by_cases hlt : k < N
    · obtain ⟨x, hx⟩ : ∃ x, ys[k]? = some x := ⟨ys[k]'(by rw [HN.out]; exact hlt), List.getElem?_eq_getElem (by rw [HN.out]; exact hlt)⟩
      have hmem := List.mem_of_getElem? hx
      have hxk := HS.out.2 x hmem
      obtain ⟨ab, off, rfl, hbl, hcell⟩ := HS.out.1.at_ (i := k) (by rw [HN.out]; exact hlt)
      have hc0 := hcell x hx 0 (by omega)
      have hc1 := hcell x hx 1 (by omega)
      simp only [a17C, List.getElem?_cons_succ, List.getElem?_cons_zero] at hc0 hc1
      have HA := Lib.hid (show At17 ab (off + k * 2) x w1 from ⟨hc0, hc1, hbl⟩)
      have HLt := Lib.hid hlt
      have HX := Lib.hid hxk
      have HLn := Lib.hid (show xo.length ≤ 150 ∧ xl.length ≤ 150 ∧ s.A.length ≤ 150 from ⟨by have := HI.out; omega, by have := HI.out; omega, by have := HI.out; omega⟩)
      obtain ⟨hx0, hx1⟩ := hxk
      clear hcell hmem hx hc0 hc1 hbl hlt
      obtain ⟨ao, co, eo, _⟩ := owned_shape HP.out.ro
      obtain ⟨aa, ca, ea, _⟩ := owned_shape HP.out.ra
      obtain ⟨al, cl, el, _⟩ := owned_shape HP.out.rl
      subst eo ea el
      obtain ⟨d0, d1, d2⟩ := HA.out.below HP.out.b
      go_upto_if 62 with (fail)
      go_cut [9, 10, 11] from 45 to 186 (fun s9 s10 s11 wr => ∃ s B xo xl, Hid (On17 w1 wr T B s s9 xo s10 s.A s11 xl) ∧ Hid (In17 m1 m2 s xo xl ∧ xo.length ≤ (k + 1) ∧ xl.length ≤ (k + 1) ∧ s.A.length ≤ (k + 1)))
      case first =>
        have HB0 := Lib.hid (And.intro HA.out HX.out)
        by_cases h2 : x.k % 4 < 2
        · have e2 : decide (x.k % 4 < 2) = true := decide_eq_true h2
          rw [e2]
          clear h2
          go_wp2_with fail
          refine (pOpen17 T B s x.n wr HP.out.p).mono ?_
          rintro e w3 ⟨B5, rfl, h1, h3, h4⟩
          have HO3 := Lib.hid (HP.out.stepP h1 h3 h4)
          clear h1 h3 h4 d0 d1 d2 e2
          go_wp2_with fail
          refine (has17_any _ xo x.n w3 (Sl.of_own HO3.out.ro HI.out.1.fit.1 (by have := HLn.out; unfold maxLen; omega))).mono ?_
          rintro e w4 ⟨rfl, rfl⟩
          rcases openE_cases s x.n with ⟨e0, e1, e3, e4, e5⟩ | ⟨e0, e1, e3, e5⟩ | ⟨e0, e1, e5⟩
          · have HE := Lib.hid (And.intro e1 (And.intro e3 e4))
            have HWf := Lib.hid (badId_wf e1).1
            rw [e0, decide_eq_false (HI.out.1.twice e3)]
            rw [e5] at HO3
            have HG3 := Lib.hid (HO3.out.grown (Sl.new1 HWf.out).1)
            clear e0 e1 e3 e4 e5
            go_wp2_with (first | (at_builtin; refine app_ints_at rfl (.tmp 76) (.tmp 78) 36 rfl w1.heap.size 3 .i64 8 Try.underlying36 Try.infoI17 _ _ xo rfl HG3.out.ro _ [x.n] rfl (Sl.new1 HWf.out).2 (by have := HLn.out; simp; omega) (by have := HLn.out; unfold maxLen; simp; omega) HG3.out.b.size ?_; intro v5 w5 own hbb hgg hat; have HO5 := Lib.hid (HG3.out.appO (by rw [List.length_append]; exact own) hgg hat); have HG5 := Lib.hid (HO5.out.grown (Sl.new1 HWf.out).1); obtain ⟨a5, k5, e, _⟩ := owned_shape own; subst e; clear own hbb hgg hat) | (at_builtin; refine app_ints_at rfl (.tmp 80) (.tmp 82) 36 rfl w1.heap.size 3 .i64 8 Try.underlying36 Try.infoI17 _ _ s.A rfl HG5.out.ra _ [x.n] rfl (Sl.new1 HWf.out).2 (by have := HLn.out; simp; omega) (by have := HLn.out; unfold maxLen; simp; omega) HG5.out.b.size ?_; intro v6 w6 own hbb hgg hat; have HO6 := Lib.hid (HG5.out.appA (by rw [List.length_append]; exact own) hgg hat); have HG6 := Lib.hid (HO6.out.grown (Sl.new1 HWf.out).1); obtain ⟨a6, k6, e, _⟩ := owned_shape own; subst e; clear own hbb hgg hat))
            go_meet
            refine ⟨{ s with hi := x.n, A := s.A ++ [x.n] }, B5, _, _, HO6, Lib.hid ⟨HI.out.1.opened HE.out.1 HE.out.2.1 HE.out.2.2, ?_⟩⟩
            have := HI.out.2
            simp only [List.length_append, List.length_singleton]
            omega
          · have HE := Lib.hid (And.intro e1 e3)
            have HWf := Lib.hid (badId_wf e1).1
            rw [e0]
            rw [e5] at HO3
            generalize decide (x.n ∈ xo) = tw
            have HG3 := Lib.hid (HO3.out.grown (Sl.new1 HWf.out).1)
            clear e0 e1 e3 e5
            go_wp2_with (first | (at_builtin; refine app_ints_at rfl (.tmp 86) (.tmp 88) 36 rfl w1.heap.size 3 .i64 8 Try.underlying36 Try.infoI17 _ _ xo rfl HG3.out.ro _ [x.n] rfl (Sl.new1 HWf.out).2 (by have := HLn.out; simp; omega) (by have := HLn.out; unfold maxLen; simp; omega) HG3.out.b.size ?_; intro v5 w5 own hbb hgg hat; have HO5 := Lib.hid (HG3.out.appO (by rw [List.length_append]; exact own) hgg hat); have HG5 := Lib.hid (HO5.out.grown (Sl.new1 HWf.out).1); obtain ⟨a5, k5, e, _⟩ := owned_shape own; subst e; clear own hbb hgg hat) | (at_builtin; refine app_ints_at rfl (.tmp 90) (.tmp 92) 36 rfl w1.heap.size 3 .i64 8 Try.underlying36 Try.infoI17 _ _ xl rfl HG5.out.rl _ [x.n] rfl (Sl.new1 HWf.out).2 (by have := HLn.out; simp; omega) (by have := HLn.out; unfold maxLen; simp; omega) HG5.out.b.size ?_; intro v6 w6 own hbb hgg hat; have HO6 := Lib.hid (HG5.out.appL (by rw [List.length_append]; exact own) hgg hat); have HG6 := Lib.hid (HO6.out.grown (Sl.new1 HWf.out).1); obtain ⟨a6, k6, e, _⟩ := owned_shape own; subst e; clear own hbb hgg hat))
            go_meet
            refine ⟨lateT { s with hi := x.n } x.n, B5, _, _, HO6, Lib.hid ⟨HI.out.1.full HE.out.1 HE.out.2, ?_⟩⟩
            have := HI.out.2
            simp only [List.length_append, List.length_singleton, (lateT_le _ _).2.1]
            omega
          · have t0 : (openE s x.n == 0) = false := beq_eq_false_iff_ne.2 e0
            have t4 : (openE s x.n == 4) = false := beq_eq_false_iff_ne.2 e1
            rw [e5] at HO3
            clear e0 e1 e5
            generalize openE s x.n = E at t0 t4 ⊢
            generalize decide (x.n ∈ xo) = tw
            go_wp2_with fail
            go_meet
            exact ⟨s, B5, _, _, HO3, Lib.hid ⟨HI.out.1, by have := HI.out.2; omega⟩⟩
        · have e2 : decide (x.k % 4 < 2) = false := decide_eq_false h2
          rw [e2]
          obtain ⟨lt, hlate⟩ : ∃ lt, (x.k % 4 == 3) = lt := ⟨_, rfl⟩
          clear h2
          go_wp2_with fail
          refine (pClose17 T B s x.n lt wr HP.out.p).mono ?_
          rintro e w3 ⟨B5, rfl, h1, h3, h4⟩
          have HO3 := Lib.hid (HP.out.stepP h1 h3 h4)
          clear h1 h3 h4 d0 d1 d2 e2
          go_wp2_with fail
          refine (has17_any _ s.A x.n w3 (Sl.of_own HO3.out.ra HI.out.1.fit.2.2 (by have := HLn.out; unfold maxLen; omega))).mono ?_
          rintro e w4 ⟨rfl, rfl⟩
          by_cases hin : x.n ∈ s.A
          · have HIn := Lib.hid hin
            rw [show closeE s x.n = 0 from if_pos hin, decide_eq_true hin]
            rw [show closeS s x.n lt = if lt = true then lateT { s with A := woutL s.A x.n } x.n else { s with A := woutL s.A x.n } from if_pos hin] at HO3
            have HWf := Lib.hid (HI.out.1.fit.2.2 x.n hin)
            clear hin
            go_wp2_with fail
            refine (less17_any _ s.A x.n w4 (Sl.of_own HO3.out.ra HI.out.1.fit.2.2 (by have := HLn.out; unfold maxLen; omega)) (by have := HLn.out; omega)).mono ?_
            rintro e w5 ⟨u, rfl, ho, hb⟩
            obtain ⟨au, cu, rfl, _⟩ := owned_shape ho
            have HO5 := Lib.hid (HO3.out.setA hb ho)
            clear ho hb
            obtain ⟨d0, d1, d2⟩ := HA.out.below HO5.out.b
            cases lt
            · go_wp2_with fail
              go_meet
              refine ⟨{ s with A := woutL s.A x.n }, B5, _, _, HO5, Lib.hid ⟨HI.out.1.closed x.n, ?_⟩⟩
              have h1 := woutL_le s.A x.n
              have := HI.out.2
              dsimp only
              omega
            · have HG5 := Lib.hid (HO5.out.grown (Sl.new1 HWf.out).1)
              go_wp2_with (at_builtin; refine app_ints_at rfl (.tmp 124) (.tmp 126) 36 rfl w1.heap.size 3 .i64 8 Try.underlying36 Try.infoI17 _ _ xl rfl HG5.out.rl _ [x.n] rfl (Sl.new1 HWf.out).2 (by have := HLn.out; simp; omega) (by have := HLn.out; unfold maxLen; simp; omega) HG5.out.b.size ?_; intro v6 w6 own hbb hgg hat; have HO6 := Lib.hid (HG5.out.appL (by rw [List.length_append]; exact own) hgg hat); have HG6 := Lib.hid (HO6.out.grown (Sl.new1 HWf.out).1); obtain ⟨a6, k6, e, _⟩ := owned_shape own; subst e; clear own hbb hgg hat)
              go_meet
              refine ⟨lateT { s with A := woutL s.A x.n } x.n, B5, _, _, HO6, Lib.hid ⟨HI.out.1.close_late HIn.out, ?_⟩⟩
              have h1 := woutL_le s.A x.n
              have := HI.out.2
              simp only [List.length_append, List.length_singleton, (lateT_le _ _).2.1]
              omega
          · rw [show closeE s x.n = 5 from if_neg hin, decide_eq_false hin]
            rw [show closeS s x.n lt = s from if_neg hin] at HO3
            have HWo := Lib.hid (wout_no hin)
            clear hin
            go_wp2_with fail
            refine (less17_any _ s.A x.n w4 (Sl.of_own HO3.out.ra HI.out.1.fit.2.2 (by have := HLn.out; unfold maxLen; omega)) (by have := HLn.out; omega)).mono ?_
            rintro e w5 ⟨u, rfl, ho, hb⟩
            rw [HWo.out] at ho
            obtain ⟨au, cu, rfl, _⟩ := owned_shape ho
            have HO5 := Lib.hid (HO3.out.setA hb ho)
            clear ho hb
            go_wp2_with fail
            go_meet
            exact ⟨s, B5, _, _, HO5, Lib.hid ⟨HI.out.1, by have := HI.out.2; omega⟩⟩
      case rest =>
        obtain ⟨s5, B5, xo5, xl5, HP5, HI5⟩ := hcut
        clear HP HI HLn
        obtain ⟨ao5, ko, eo, _⟩ := owned_shape HP5.out.ro
        obtain ⟨aa5, ka, ea, _⟩ := owned_shape HP5.out.ra
        obtain ⟨al5, kl, el, _⟩ := owned_shape HP5.out.rl
        subst eo ea el
        obtain ⟨pre, hpre⟩ := HI5.out.1.suf
        have HPre := Lib.hid hpre
        obtain ⟨NL, hNL⟩ : ∃ NL, s5.L.length = NL := ⟨_, rfl⟩
        obtain ⟨ML, hML⟩ : ∃ ML, xl5.length = ML := ⟨_, rfl⟩
        obtain ⟨NA, hNA⟩ : ∃ NA, s5.A.length = NA := ⟨_, rfl⟩
        obtain ⟨PL, hPL⟩ : ∃ PL, pre.length = PL := ⟨_, rfl⟩
        have HLs := Lib.hid (show s5.L.length = NL ∧ xl5.length = ML ∧ s5.A.length = NA ∧ pre.length = PL ∧ ML = PL + NL ∧ (NA : Int) ≤ m1 ∧ (NL : Int) ≤ m2 ∧ ML ≤ 150 ∧ NA ≤ 150 ∧ NL ≤ 150 from by
          have h1 := HI5.out.1.a
          have h2 := HI5.out.1.l
          have h3 := HI5.out.2
          have h4 : xl5.length = pre.length + s5.L.length := by rw [hpre, List.length_append]
          rw [hNA] at h1
          rw [hNL] at h2
          refine ⟨hNL, hML, hNA, hPL, ?_, h1, h2, ?_, ?_, ?_⟩ <;> omega)
        have HFit := Lib.hid HI5.out.1.fit
        have f1 : decide (m1 < (NA : Int)) = false := decide_eq_false (by have := HLs.out; omega)
        have f2 : decide (m2 < (NL : Int)) = false := decide_eq_false (by have := HLs.out; omega)
        have f3 : decide ((ML : Int) < (NL : Int)) = false := decide_eq_false (by have := HLs.out; omega)
        have f4 : decide (ML < NL) = false := decide_eq_false (by have := HLs.out; omega)
        have hNL2 : NL ≤ 150 := HLs.out.2.2.2.2.2.2.2.2.2
        have hML2 : ML ≤ 150 := HLs.out.2.2.2.2.2.2.2.1
        rw [hML]
        rw [hNA]
        have HSa := Lib.hid (show ∀ w', Below wc.heap.size wc w' → Sl .i64 w' (.slice aa5 NA ka) s5.A from fun w' hb => by
          have h1 := Sl.of_own (HP5.out.grown hb).ra HFit.out.2.2 (by have := HLs.out; unfold maxLen; omega)
          rw [hNA] at h1
          exact h1)
        have HSl := Lib.hid (show ∀ w', Below wc.heap.size wc w' → Sl .i64 w' (.slice al5 ML kl) xl5 from fun w' hb => by
          have h1 := Sl.of_own (HP5.out.grown hb).rl HFit.out.2.1 (by have := HLs.out; unfold maxLen; omega)
          rw [hML] at h1
          exact h1)
        clear hNL hML hNA hPL hpre
        go_wp2_with fail
        refine (pActive17 T B5 s5 wc HP5.out.p).mono ?_
        rintro e w3 ⟨v3, rfl, hv3, hb3⟩
        obtain ⟨a3, c3, e3, _⟩ := id hv3
        rw [HLs.out.2.2.1] at e3
        subst e3
        have HB3 := Lib.hid hb3
        have HV3 := Lib.hid hv3
        clear hb3 hv3
        go_wp2_with fail
        refine (ints17_any _ _ s5.A s5.A w3 HV3.out (HSa.out w3 HB3.out)).mono ?_
        rintro e w4 ⟨rfl, n4, hw4⟩
        rw [show decide (s5.A = s5.A) = true from decide_eq_true rfl]
        have HB4 := Lib.hid (show Below wc.heap.size wc w4 by rw [hw4]; exact below_drewN HB3.out _)
        clear hw4
        go_wp2_with fail
        refine (pLate17 T B5 s5 w4 (HP5.out.grown HB4.out).p).mono ?_
        rintro e w5 ⟨v5, rfl, hv5, hb5⟩
        obtain ⟨a5, c5, e5, _⟩ := hv5
        rw [HLs.out.1] at e5
        subst e5
        have HB5 := Lib.hid (HB4.out.trans (hb5.mono HB4.out.size))
        clear hb5
        go_wp2_with fail
        refine (pLate17 T B5 s5 w5 (HP5.out.grown HB5.out).p).mono ?_
        rintro e w6 ⟨v6, rfl, hv6, hb6⟩
        obtain ⟨a6, c6, e6, _⟩ := hv6
        rw [HLs.out.1] at e6
        subst e6
        have HB6 := Lib.hid (HB5.out.trans (hb6.mono HB5.out.size))
        clear hb6
        go_wp2_with fail
        refine (pLate17 T B5 s5 w6 (HP5.out.grown HB6.out).p).mono ?_
        rintro e wi ⟨v7, rfl, hv7, hb7⟩
        obtain ⟨ak, ck, e7, _⟩ := id hv7
        rw [HLs.out.1] at e7
        subst e7
        have HBi := Lib.hid (HB6.out.trans (hb7.mono HB6.out.size))
        have HKi := Lib.hid hv7
        clear hb7 hv7 f1 f2 f3 f4
        go_wp2_with fail
        go_loopg [20] NL (fun m s20 wr2 => ∃ k2 : Nat, k2 + m = NL ∧ s20 = .int .i64 k2 ∧ Hid (Below wi.heap.size wi wr2))
        case atStart => exact ⟨0, by omega, rfl, Lib.hid (Below.refl _ _)⟩
        case round =>
          rename World => wr2
          obtain ⟨k2, hkq2, rfl, HW⟩ := hrel
          have HKQ2 := Lib.hid hkq2
          have hk2 : k2 ≤ NL := by omega
          clear hkq2
          have HBr := Lib.hid (HBi.out.trans (HW.out.mono HBi.out.size))
          have HOr := Lib.hid (HP5.out.grown HBr.out)
          by_cases hlt2 : k2 < NL
          · have HKp := Lib.hid (HKi.out.below HW.out)
            have HLp := Lib.hid (HSl.out wr2 HBr.out)
            obtain ⟨j, hj⟩ : ∃ j, PL + k2 = j := ⟨_, rfl⟩
            obtain ⟨y, hy⟩ : ∃ y, at0 s5.L k2 = y := ⟨_, rfl⟩
            have HK2 := Lib.hid (show k2 < s5.L.length ∧ at0 s5.L k2 = y ∧ j < xl5.length ∧ at0 xl5 j = y from by
              have h1 := HLs.out
              refine ⟨by omega, hy, by omega, ?_⟩
              rw [HPre.out, ← hj, ← h1.2.2.2.1, at0_right]
              exact hy)
            have HY := Lib.hid (show kindT s5 y = 2 from HI5.out.1.kind (by rw [← HK2.out.2.1]; exact at0_mem HK2.out.1))
            obtain ⟨bk, ok, rfl, hbk, _⟩ := HKp.out.adr k2 HK2.out.1
            obtain ⟨bl, ol, rfl, hbl, _⟩ := HLp.out.adr j HK2.out.2.2.1
            have hix := fun W => run_index_sl (P := Try.prog) (t := 36) (s := 1) Try.sliceI17 Try.sizeI17 bk ok NL ck k2 hlt2 .i64 W
            have hil := fun W => run_index_sl (P := Try.prog) (t := 36) (s := 1) Try.sliceI17 Try.sizeI17 bl ol ML kl j (by have := HLs.out; omega) .i64 W
            simp only [Nat.mul_one] at hix hil
            have hsub : ((ML : Int) - (NL : Int)) = (PL : Int) := by have := HLs.out; omega
            have hwp : IntKind.i64.wrap (PL : Int) = (PL : Int) := wrap_i64_small (by omega) (by have := HLs.out; omega)
            have hadd : ((PL : Int) + (k2 : Int)) = (j : Int) := by omega
            have hwk : IntKind.i64.wrap (j : Int) = (j : Int) := wrap_i64_small (by omega) (by have := HLs.out; omega)
            clear hj hy
            go_wp2_with fail
            refine wp_region_quiet (C := fun w' => Below wr2.heap.size wr2 w') (by kernel_rfl) (by kernel_rfl) (Below.refl _ _).drew ?_
            refine quiet_take (.slice (some ⟨bk, ok, none⟩) NL ck) rfl (quiet_pure (fun w => rfl)) ?_
            simp only [Act.put, List.setIfInBounds_toArray, List.set_cons_zero, List.set_cons_succ]
            refine quiet_take (.int .i64 (k2 : Int)) rfl (quiet_pure (fun w => rfl)) ?_
            simp only [Act.put, List.setIfInBounds_toArray, List.set_cons_zero, List.set_cons_succ]
            refine quiet_take (.pointer (some ⟨bk, ok + k2, none⟩)) rfl (quiet_pure (fun w => by simp [go_sem, hix])) ?_
            simp only [Act.put, List.setIfInBounds_toArray, List.set_cons_zero, List.set_cons_succ]
            refine quiet_take (.int .i64 y) rfl (quiet_is (fun w hw => by have g1 := (HKp.out.below hw).at_ k2 HK2.out.1; rw [HK2.out.2.1] at g1; simp [go_sem, g1])) ?_
            simp only [Act.put, List.setIfInBounds_toArray, List.set_cons_zero, List.set_cons_succ]
            refine quiet_take (.slice (some ⟨bl, ol, none⟩) ML kl) rfl (quiet_pure (fun w => rfl)) ?_
            simp only [Act.put, List.setIfInBounds_toArray, List.set_cons_zero, List.set_cons_succ]
            refine quiet_take (.slice (some ⟨bl, ol, none⟩) ML kl) rfl (quiet_pure (fun w => rfl)) ?_
            simp only [Act.put, List.setIfInBounds_toArray, List.set_cons_zero, List.set_cons_succ]
            refine quiet_take (.int .i64 (ML : Int)) rfl (quiet_pure (fun w => by simp [go_sem])) ?_
            simp only [Act.put, List.setIfInBounds_toArray, List.set_cons_zero, List.set_cons_succ]
            refine quiet_take (.slice (some ⟨bk, ok, none⟩) NL ck) rfl (quiet_pure (fun w => rfl)) ?_
            simp only [Act.put, List.setIfInBounds_toArray, List.set_cons_zero, List.set_cons_succ]
            refine quiet_take (.int .i64 (NL : Int)) rfl (quiet_pure (fun w => by simp [go_sem])) ?_
            simp only [Act.put, List.setIfInBounds_toArray, List.set_cons_zero, List.set_cons_succ]
            refine quiet_take (.int .i64 (PL : Int)) rfl (quiet_pure (fun w => by simp [go_sem, hsub, hwp])) ?_
            simp only [Act.put, List.setIfInBounds_toArray, List.set_cons_zero, List.set_cons_succ]
            refine quiet_take (.int .i64 (k2 : Int)) rfl (quiet_pure (fun w => rfl)) ?_
            simp only [Act.put, List.setIfInBounds_toArray, List.set_cons_zero, List.set_cons_succ]
            refine quiet_take (.int .i64 (j : Int)) rfl (quiet_pure (fun w => by simp [go_sem, hadd, hwk])) ?_
            simp only [Act.put, List.setIfInBounds_toArray, List.set_cons_zero, List.set_cons_succ]
            refine quiet_take (.pointer (some ⟨bl, ol + j, none⟩)) rfl (quiet_pure (fun w => by have h3 := hil w; simp [go_sem, h3])) ?_
            simp only [Act.put, List.setIfInBounds_toArray, List.set_cons_zero, List.set_cons_succ]
            refine quiet_take (.int .i64 y) rfl (quiet_is (fun w hw => by have g1 := (HLp.out.below hw).at_ j HK2.out.2.2.1; rw [HK2.out.2.2.2] at g1; simp [go_sem, g1])) ?_
            simp only [Act.put, List.setIfInBounds_toArray, List.set_cons_zero, List.set_cons_succ]
            refine quiet_take (.bool false) rfl (quiet_pure (fun w => by simp [go_sem])) ?_
            simp only [Act.put, List.setIfInBounds_toArray, List.set_cons_zero, List.set_cons_succ]
            refine quiet_take (.bool false) rfl (quiet_pure (fun w => rfl)) ?_
            simp only [Act.put, List.setIfInBounds_toArray, List.set_cons_zero, List.set_cons_succ]
            refine quiet_take (.pointer (some ⟨T, 0, none⟩)) rfl (quiet_pure (fun w => rfl)) ?_
            simp only [Act.put, List.setIfInBounds_toArray, List.set_cons_zero, List.set_cons_succ]
            refine quiet_take (.slice (some ⟨bk, ok, none⟩) NL ck) rfl (quiet_pure (fun w => rfl)) ?_
            simp only [Act.put, List.setIfInBounds_toArray, List.set_cons_zero, List.set_cons_succ]
            refine quiet_take (.int .i64 (k2 : Int)) rfl (quiet_pure (fun w => rfl)) ?_
            simp only [Act.put, List.setIfInBounds_toArray, List.set_cons_zero, List.set_cons_succ]
            refine quiet_take (.pointer (some ⟨bk, ok + k2, none⟩)) rfl (quiet_pure (fun w => by simp [go_sem, hix])) ?_
            simp only [Act.put, List.setIfInBounds_toArray, List.set_cons_zero, List.set_cons_succ]
            refine quiet_take (.int .i64 y) rfl (quiet_is (fun w hw => by have g1 := (HKp.out.below hw).at_ k2 HK2.out.1; rw [HK2.out.2.1] at g1; simp [go_sem, g1])) ?_
            simp only [Act.put, List.setIfInBounds_toArray, List.set_cons_zero, List.set_cons_succ]
            refine quiet_take (.int .i64 2) rfl (quiet_call 16 _ _ rfl [.pointer (some ⟨T, 0, none⟩), .int .i64 y] rfl (enters_of Try.func16 (by kernel_rfl) rfl) (fun w hw => (pKind17 T B5 s5 y w (HOr.out.grown hw).p).mono (by rintro e w'' ⟨rfl, hb⟩; exact ⟨by rw [HY.out], hw.trans (hb.mono hw.size)⟩))) ?_
            simp only [Act.put, List.setIfInBounds_toArray, List.set_cons_zero, List.set_cons_succ]
            refine quiet_take (.bool false) rfl (quiet_pure (fun w => by simp [go_sem])) ?_
            simp only [Act.put, List.setIfInBounds_toArray, List.set_cons_zero, List.set_cons_succ]
            refine quiet_take (.bool false) rfl (quiet_pure (fun w => by simp [go_sem])) ?_
            simp only [Act.put, List.setIfInBounds_toArray, List.set_cons_zero, List.set_cons_succ]
            intro W10 hb10
            have HB10 := Lib.hid (HW.out.trans (hb10.mono HW.out.size))
            clear hb10 hix hil hsub hwp hadd hwk
            go_wp2_with fail
            go_roundg (NL - (k2 + 1))
            case measure => have := HKQ2.out; omega
            case rel => exact ⟨k2 + 1, by omega, by go_num, HB10⟩
          · obtain rfl : k2 = NL := by omega
            clear hlt2
            go_wp2_with fail
            go_roundg (N - (k + 1))
            case measure => have := HKQ.out; have := HLt.out; omega
            case rel => exact ⟨k + 1, by have := HLt.out; have := HKQ.out; omega, by go_num, s5, B5, xo5, xl5, Lib.hid (by have h1 := HOr.out; rw [HLs.out.2.2.1, HLs.out.2.1] at h1; exact h1), HI5⟩
    · obtain rfl : k = N := by omega
      clear hlt hk
      go_wp2_with fail
      refine (alive17 _).mono ?_
      rintro e w3 ⟨rfl, hb3⟩
      have HB3 := Lib.hid (HB1.out.1.trans ((HP.out.b.trans (hb3.mono HP.out.b.size)).mono HB1.out.1.size))
      clear hb3
      go_wp2_with fail
      go_ret
      exact ⟨rfl, HB3.out⟩
end Go.Proofs.Ytcompnndnelamaa
