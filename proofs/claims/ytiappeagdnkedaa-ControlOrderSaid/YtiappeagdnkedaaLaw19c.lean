
/-
  Layer 19: the law ControlOrder (written by wip/tools/gen19c.py).
-/
import Derived.Test.YtiappeagdnkedaaLaw19b
import Derived.Test.YtiappeagdnkedaaRef02List
import Derived.Test.YtiappeagdnkedaaAppAt
namespace Go.Proofs.Ytiappeagdnkedaa
set_option maxRecDepth 20000
open Go.RowKit

/-- the queue, the frames that came, those that went -/
structure On19 (w W : World) (T : Nat) (B K : Nat → Prop) (q : Q19) (cv gv : Value) (cs gs : List (Fr × Value)) : Prop where
  p : CqAt W T B K q
  b : Below w.heap.size w W
  gB : ∀ g, B g → w.heap.size ≤ g
  oc : W.ownsRow w.heap.size 34 4 cv cs.length (flat cs)
  og : W.ownsRow w.heap.size 34 4 gv gs.length (flat gs)
  ncg : ∀ g, cv.ownBlock = some g → gv.ownBlock ≠ some g
  nc : ∀ g, cv.ownBlock = some g → ¬ B g ∧ ¬ K g
  ng : ∀ g, gv.ownBlock = some g → ¬ B g ∧ ¬ K g
  pc : ∀ p ∈ cs, Sl .u8 w p.2 p.1.pay
  pg : ∀ p ∈ gs, Sl .u8 W p.2 p.1.pay ∧ ∀ g, PayB p.1 p.2 g → ¬ B g ∧ cv.ownBlock ≠ some g ∧ gv.ownBlock ≠ some g
section
variable {w W W' : World} {T : Nat} {B B' K K' : Nat → Prop} {q q' : Q19} {cv gv v' : Value} {cs gs : List (Fr × Value)}
theorem On19.grown (h : On19 w W T B K q cv gv cs gs) (hb : Below W.heap.size W W') : On19 w W' T B K q cv gv cs gs :=
  ⟨h.p.turn (Turn.of_below hb (S := fun _ => False)) (fun _ _ => id), h.b.trans (hb.mono h.b.size), h.gB, owned_below h.oc hb, owned_below h.og hb, h.ncg, h.nc, h.ng, h.pc, fun p hp => ⟨(h.pg p hp).1.below hb, (h.pg p hp).2⟩⟩
theorem On19.stepP (h : On19 w W T B K q cv gv cs gs) (ha : CqAt W' T B' K' q') (ht : Turn B W W') (hB : ∀ g, B' g → B g ∨ W.heap.size ≤ g) (hK : ∀ g, K' g → K g ∨ g < w.heap.size ∨ W.heap.size ≤ g) : On19 w W' T B' K' q' cv gv cs gs := by
  have one : ∀ {v : Value} {n : Nat} {xs : List Value}, W.ownsRow w.heap.size 34 4 v n xs → (∀ g, v.ownBlock = some g → ¬ B g ∧ ¬ K g) → ∀ g, v.ownBlock = some g → ¬ B' g ∧ ¬ K' g := fun ho hn g hg => by
    have h1 := ho.lt g hg
    refine ⟨fun e => (hB g e).elim (hn g hg).1 (fun e => by omega), fun e => ?_⟩
    rcases hK g e with e | e | e
    · exact (hn g hg).2 e
    · omega
    · omega
  refine ⟨ha, ht.base h.b h.b.size h.gB, fun k hk => (hB k hk).elim (h.gB k) (Nat.le_trans h.b.size), owned_turn h.oc ht (fun g hg => (h.nc g hg).1), owned_turn h.og ht (fun g hg => (h.ng g hg).1), h.ncg, one h.oc h.nc, one h.og h.ng, h.pc, fun p hp => ?_⟩
  obtain ⟨h1, h2⟩ := h.pg p hp
  refine ⟨h1.turn0 ht (fun hne g hg => (h2 g ⟨hne, hg⟩).1), fun g hg => ⟨fun e => ?_, (h2 g hg).2⟩⟩
  rcases hB g e with e | e
  · exact (h2 g hg).1 e
  · have := h1.lt0 hg.1 hg.2; omega
theorem On19.addC (h : On19 w W T B K q cv gv cs gs) {F : Fr} {pv : Value} (hg : W.grownBy W' cv.ownBlock) (own : W'.ownsRow w.heap.size 34 4 v' (cs ++ [(F, pv)]).length (flat (cs ++ [(F, pv)]))) (hat : v'.ownBlock = cv.ownBlock ∨ v'.ownBlock = some W.heap.size) (hp : Sl .u8 w pv F.pay) :
    On19 w W' T B K q v' gv (cs ++ [(F, pv)]) gs := by
  have ht := Turn.of_row hg
  refine ⟨h.p.turn ht (fun g hB e => hB.elim (h.nc g e).1 (h.nc g e).2), ht.base h.b h.b.size (fun k hk => (h.oc.lt k hk).1), h.gB, own, owned_turn h.og ht (fun g hg e => h.ncg g e hg), fun g hg => ?_, fun g hg => ?_, h.ng, fun p hm => ?_, fun p hm => ?_⟩
  · rcases hat with e | e
    · exact h.ncg g (e ▸ hg)
    · intro e2; rw [e] at hg; cases hg; have := (h.og.lt _ e2).2; omega
  · rcases hat with e | e
    · exact h.nc g (e ▸ hg)
    · rw [e] at hg; cases hg
      exact ⟨fun e => by have := h.p.lt _ (.inl e); omega, fun e => by have := h.p.lt _ (.inr e); omega⟩
  · rcases List.mem_append.1 hm with hm | hm
    · exact h.pc p hm
    · rw [List.mem_singleton] at hm; subst hm; exact hp
  · obtain ⟨h1, h2⟩ := h.pg p hm
    refine ⟨h1.turn0 ht (fun hne g hg => (h2 g ⟨hne, hg⟩).2.1), fun g hg => ⟨(h2 g hg).1, ?_, (h2 g hg).2.2⟩⟩
    rcases hat with e | e
    · rw [e]; exact (h2 g hg).2.1
    · rw [e]; intro e2; cases e2; have := h1.lt0 hg.1 hg.2; omega
theorem On19.addG (h : On19 w W T B K q cv gv cs gs) {F : Fr} {pv : Value} (hg : W.grownBy W' gv.ownBlock) (own : W'.ownsRow w.heap.size 34 4 v' (gs ++ [(F, pv)]).length (flat (gs ++ [(F, pv)]))) (hat : v'.ownBlock = gv.ownBlock ∨ v'.ownBlock = some W.heap.size) (hp : Sl .u8 W pv F.pay)
    (hpb : ∀ g, PayB F pv g → ¬ B g ∧ cv.ownBlock ≠ some g ∧ gv.ownBlock ≠ some g) : On19 w W' T B K q cv v' cs (gs ++ [(F, pv)]) := by
  have ht := Turn.of_row hg
  refine ⟨h.p.turn ht (fun g hB e => hB.elim (h.ng g e).1 (h.ng g e).2), ht.base h.b h.b.size (fun k hk => (h.og.lt k hk).1), h.gB, owned_turn h.oc ht (fun g hg e => h.ncg g hg e), own, fun g hg => ?_, h.nc, fun g hg => ?_, h.pc, fun p hm => ?_⟩
  · rcases hat with e | e
    · rw [e]; exact h.ncg g hg
    · rw [e]; intro e2; cases e2; have := (h.oc.lt _ hg).2; omega
  · rcases hat with e | e
    · exact h.ng g (e ▸ hg)
    · rw [e] at hg; cases hg
      exact ⟨fun e => by have := h.p.lt _ (.inl e); omega, fun e => by have := h.p.lt _ (.inr e); omega⟩
  · have one : Sl .u8 W p.2 p.1.pay ∧ ∀ g, PayB p.1 p.2 g → ¬ B g ∧ cv.ownBlock ≠ some g ∧ gv.ownBlock ≠ some g := by
      rcases List.mem_append.1 hm with hm | hm
      · exact h.pg p hm
      · rw [List.mem_singleton] at hm; subst hm; exact ⟨hp, hpb⟩
    obtain ⟨h1, h2⟩ := one
    refine ⟨h1.turn0 ht (fun hne g hg => (h2 g ⟨hne, hg⟩).2.2), fun g hg => ⟨(h2 g hg).1, (h2 g hg).2.1, ?_⟩⟩
    rcases hat with e | e
    · rw [e]; exact (h2 g hg).2.2
    · rw [e]; intro e2; cases e2; have := h1.lt0 hg.1 hg.2; omega
end
/-- what of the numbers of frames holds behind k acts -/
structure Inv19 (nn k : Nat) (q : Q19) (cs gs : List (Fr × Value)) : Prop where
  room : q.room = nn
  le : q.l.length ≤ nn + 1
  le' : q.ended = false → q.l.length ≤ nn
  e : cs.map (·.1) = gs.map (·.1) ++ q.l
  ck : cs.length ≤ k
section
variable {nn k : Nat} {q : Q19} {cs gs : List (Fr × Value)} {F : Fr} {pv : Value}
theorem Inv19.len (h : Inv19 nn k q cs gs) : cs.length = gs.length + q.l.length := by
  have := congrArg List.length h.e
  simpa using this
theorem Inv19.more (h : Inv19 nn k q cs gs) : Inv19 nn (k + 1) q cs gs := ⟨h.room, h.le, h.le', h.e, Nat.le_succ_of_le h.ck⟩
theorem pushQ_over (F : Fr) (he : q.ended = true) : pushQE q = 7 ∧ pushQ q F = q := by simp [pushQE, pushQ, he]
theorem pushQ_full' (F : Fr) (he : q.ended = false) (hr : q.room ≤ (q.l.length : Int)) : pushQE q = 4 ∧ pushQ q F = q := by simp [pushQE, pushQ, he, hr]
theorem pushQ_ok' (F : Fr) (he : q.ended = false) (hr : ¬ q.room ≤ (q.l.length : Int)) : pushQE q = 0 ∧ pushQ q F = { q with l := q.l ++ [F] } := by simp [pushQE, pushQ, he, hr]
theorem lastQ_over (F : Fr) (he : q.ended = true) : lastQE q = 7 ∧ lastQ q F = q := by simp [lastQE, lastQ, he]
theorem lastQ_ok' (F : Fr) (he : q.ended = false) : lastQE q = 0 ∧ lastQ q F = { q with l := q.l ++ [F], ended := true } := by simp [lastQE, lastQ, he]
theorem Inv19.push (h : Inv19 nn k q cs gs) (hr : ¬ q.room ≤ (q.l.length : Int)) : Inv19 nn (k + 1) { q with l := q.l ++ [F] } (cs ++ [(F, pv)]) gs := by
  have h1 := h.room
  refine ⟨h.room, ?_, fun _ => ?_, ?_, ?_⟩
  · simp only [List.length_append, List.length_singleton]; omega
  · simp only [List.length_append, List.length_singleton]; omega
  · simp only [List.map_append, h.e, List.map_cons, List.map_nil, List.append_assoc]
  · have := h.ck; simp only [List.length_append, List.length_singleton]; omega
theorem Inv19.last (h : Inv19 nn k q cs gs) (he : q.ended = false) : Inv19 nn (k + 1) { q with l := q.l ++ [F], ended := true } (cs ++ [(F, pv)]) gs := by
  have h1 := h.le' he
  refine ⟨h.room, ?_, (fun e => by cases e), ?_, ?_⟩
  · simp only [List.length_append, List.length_singleton]; omega
  · simp only [List.map_append, h.e, List.map_cons, List.map_nil, List.append_assoc]
  · have := h.ck; simp only [List.length_append, List.length_singleton]; omega
theorem Inv19.pop (h : Inv19 nn k q cs gs) (hb : popB q = true) : Inv19 nn k (popQ q) cs (gs ++ [(popF q, pv)]) := by
  obtain ⟨room, l, ended⟩ := q
  cases l with
  | nil => cases hb
  | cons f r =>
    obtain ⟨h1, h2, h3, h4, h5⟩ := h
    refine ⟨h1, ?_, fun e => ?_, ?_, h5⟩
    · simp only [popQ, List.drop_succ_cons, List.drop_zero, List.length_cons] at h2 ⊢; omega
    · have := h3 e; simp only [popQ, List.drop_succ_cons, List.drop_zero, List.length_cons] at this ⊢; omega
    · simp only [popQ, popF, List.headD_cons, List.drop_succ_cons, List.drop_zero, List.map_append, List.map_cons, List.map_nil, List.append_assoc, List.singleton_append] at h4 ⊢
      exact h4
theorem popQ_none (hb : popB q = false) : popQ q = q ∧ q.l = [] := by
  obtain ⟨room, l, ended⟩ := q
  cases l with
  | nil => exact ⟨rfl, rfl⟩
  | cons f r => cases hb
theorem popQ_len (hb : popB q = true) : q.l.length = (popQ q).l.length + 1 := by
  obtain ⟨room, l, ended⟩ := q
  cases l with
  | nil => cases hb
  | cons f r => simp [popQ]
end
set_option maxHeartbeats 32000000 in
theorem order19_any (z : Int) (v : Value) (ys : List A19) (w1 : World) (hz0 : 0 ≤ z) (hz1 : z ≤ 255) (h : SlA19 w1 v ys) :
    Calls Try.prog 4 #[.int .u8 z, v] w1 fun e w' => e = .returned (.bool true) ∧ Below w1.heap.size w1 w' := by
  obtain ⟨a, c, rfl, hc1, hc2⟩ := h.1.shape
  unfold maxLen at hc2
  go_enter Try.func4, Try.ntmps4
  go_wp2_with fail
  refine (fits19_any _ ys _ h).mono ?_
  rintro e w0 ⟨rfl, e0⟩
  have e1 := e0.symm
  clear e0
  subst e1
  cases hft : fits19 ys
  · go_wp2_with fail
    refine (alive19 _).mono ?_
    rintro e w2 ⟨rfl, hb2⟩
    have HB2 := Lib.hid hb2
    clear hb2
    go_wp2_with fail
    go_ret
    exact ⟨rfl, HB2.out⟩
  obtain ⟨hy30, hyx⟩ := fits19_yes hft
  have HFX := Lib.hid hyx
  obtain ⟨N, hN⟩ : ∃ N, ys.length = N := ⟨_, rfl⟩
  rw [hN] at h hc1 hy30 ⊢
  have HN := Lib.hid hN
  have HS := Lib.hid h
  clear hN h hft hyx
  go_wp2_with fail
  obtain ⟨nn, hnn⟩ : ∃ nn : Nat, z % 64 + 1 = (nn : Int) := ⟨(z % 64 + 1).toNat, by omega⟩
  rw [hnn]
  have hn1 : 1 ≤ nn := by omega
  have hn2 : nn ≤ 64 := by omega
  clear hnn
  refine (pNew19_yes (nn : Int) w1 (by omega)).mono ?_
  rintro e w2 ⟨T, B0, rfl, h1, h2, hb2⟩
  have HP0 := Lib.hid (show On19 w1 w2 T B0 (fun _ => False) ⟨nn, [], false⟩ (.slice none 0 0) (.slice none 0 0) [] [] ∧ Inv19 nn 0 ⟨nn, [], false⟩ [] [] from
    ⟨⟨h1, hb2, h2, ⟨rfl, .inl ⟨rfl, rfl⟩⟩, ⟨rfl, .inl ⟨rfl, rfl⟩⟩, (fun g hg => by cases hg), (fun g hg => by cases hg), (fun g hg => by cases hg), (fun p hp => by cases hp), (fun p hp => by cases hp)⟩, ⟨rfl, by simp, fun _ => by simp, rfl, by simp⟩⟩)
  clear h1 h2 hb2
  go_wp2_with fail
  go_loopg [9, 10, 11, 12] N (fun q s9 s10 s11 s12 wr => ∃ k : Nat, k + q = N ∧ s12 = .int .i64 k ∧ ∃ s B K cs gs cv gv, s9 = cv ∧ s10 = gv ∧ s11 = .bool s.ended ∧ Hid (On19 w1 wr T B K s cv gv cs gs ∧ Inv19 nn k s cs gs))
  case atStart => exact ⟨0, by omega, rfl, _, B0, _, [], [], _, _, rfl, rfl, rfl, HP0⟩
  case round =>
    obtain ⟨k, hkq, rfl, s, B, K, cs, gs, cv, gv, rfl, rfl, rfl, HP⟩ := hrel
    have HKQ := Lib.hid hkq
    have hk : k ≤ N := by omega
    clear hkq HP0
    obtain ⟨ac, kc, rfl, _⟩ := owned_shape HP.out.1.oc
    obtain ⟨ag, kg, rfl, _⟩ := owned_shape HP.out.1.og
    obtain ⟨C, hC⟩ : ∃ C, cs.length = C := ⟨_, rfl⟩
    obtain ⟨D, hD⟩ : ∃ D, gs.length = D := ⟨_, rfl⟩
    rw [hC, hD] at HP ⊢
    have HCD := Lib.hid (And.intro hC hD)
    clear hC hD
    by_cases hlt : k < N
    · obtain ⟨⟨xk, F, pv⟩, hx⟩ : ∃ x, ys[k]? = some x := ⟨ys[k]'(by rw [HN.out]; exact hlt), List.getElem?_eq_getElem (by rw [HN.out]; exact hlt)⟩
      have hmem := List.mem_of_getElem? hx
      obtain ⟨hsl, hx0, hx1⟩ := HS.out.2 _ hmem
      have HF := Lib.hid (HFX.out _ hmem)
      dsimp only at hsl hx0 hx1 HF
      obtain ⟨ab, off, rfl, hbl, hcell⟩ := HS.out.1.at_ (i := k) (by rw [HN.out]; exact hlt)
      have hc0 := hcell _ hx 0 (by omega)
      have hc1 := hcell _ hx 1 (by omega)
      have hc2 := hcell _ hx 2 (by omega)
      have hc3 := hcell _ hx 3 (by omega)
      have hc4 := hcell _ hx 4 (by omega)
      simp only [a19C, List.getElem?_cons_succ, List.getElem?_cons_zero] at hc0 hc1 hc2 hc3 hc4
      obtain ⟨pa, pc, rfl, _⟩ := id hsl
      have HA := Lib.hid (show At19 ab (off + k * 5) xk F (.slice pa F.pay.length pc) w1 from ⟨hc0, hc1, hc2, hc3, hc4, hbl⟩)
      have HX := Lib.hid hsl
      have HSm := Lib.hid (show s.l.length ≤ 1000 ∧ F.pay.length ≤ 100000 from ⟨by have := HP.out.2.len; have := HP.out.2.ck; omega, by have := HF.out; omega⟩)
      have HRm := Lib.hid HP.out.2.room
      clear hcell hmem hx hc0 hc1 hc2 hc3 hc4 hbl hsl
      obtain ⟨d0, d1, d2, d3, d4, d5⟩ := HA.out.below HP.out.1.b
      obtain ⟨ee, hee⟩ : ∃ ee, s.ended = ee := ⟨_, rfl⟩
      rw [hee]
      have HE := Lib.hid hee
      clear hee
      by_cases h3 : xk % 6 < 3
      · have e3 : decide (xk % 6 < 3) = true := decide_eq_true h3
        have e5 : (xk % 6 == 5) = false := by simp; omega
        clear h3
        cases ee
        · by_cases hrm : s.room ≤ (s.l.length : Int)
          · have HR2 := Lib.hid hrm
            clear hrm
            go_wp2_with fail
            refine (pPush19 T B K s F _ wr HP.out.1.p (HX.out.later19 HX.out HP.out.1.b) (fun g hg e => by have := HX.out.lt0 hg.1 hg.2; have := HP.out.1.gB g e; omega) HSm.out.1 HSm.out.2).mono ?_
            rintro e w3 ⟨B9, K9, rfl, h1, h2, h3, h4⟩
            rw [(pushQ_full' F HE.out HR2.out).1]
            rw [(pushQ_full' F HE.out HR2.out).2] at h1
            have HP9 := Lib.hid (show On19 w1 w3 T B9 K9 s (.slice ac C kc) (.slice ag D kg) cs gs ∧ Inv19 nn (k + 1) s cs gs ∧ s.ended = false from
              ⟨HP.out.1.stepP h1 h2 h3 (fun g hg => (h4 g hg).imp_right (Or.imp_left (fun e => HX.out.lt0 e.1 e.2))), HP.out.2.more, HE.out⟩)
            have hC9 := HCD.out.1
            have hD9 := HCD.out.2
            clear h1 h2 h3 h4 d0 d1 d2 d3 d4 d5 HP HRm
            generalize s = s9 at HP9
            generalize cs = cs9 at HP9 hC9
            generalize gs = gs9 at HP9 hD9
            generalize C = C9 at HP9 hC9 ⊢
            generalize D = D9 at HP9 hD9 ⊢
            generalize w3 = w9 at HP9 ⊢
            go_wp2_with fail
            have hcs := HP9.out.2.1.ck
            have hln := HP9.out.2.1.len
            have hle := HP9.out.2.1.le
            have hle' := HP9.out.2.1.le'
            obtain ⟨M9, hM9⟩ : ∃ M9, s9.l.length = M9 := ⟨_, rfl⟩
            have HM9 := Lib.hid (show s9.l.length = M9 ∧ M9 ≤ 1000 from ⟨hM9, by omega⟩)
            have dB : decide ((nn : Int) + 1 < (M9 : Int)) = false := decide_eq_false (by omega)
            have dB' : decide (nn + 1 < M9) = false := decide_eq_false (by omega)
            have hne : ((M9 : Int) != (C9 : Int) - (D9 : Int)) = false := by simp; omega
            have hC1 : C9 ≤ 1000 := by omega
            have hD1 : D9 ≤ 1000 := by omega
            have hM1 : M9 ≤ 1000 := by omega
            have dA : decide ((nn : Int) < (M9 : Int)) = false := decide_eq_false (by have := hle' HP9.out.2.2; omega)
            have dA' : decide (nn < M9) = false := decide_eq_false (by have := hle' HP9.out.2.2; omega)
            clear hcs hln hle hle' hM9 hC9 hD9
            refine (pLen19 T B9 K9 s9 w9 HP9.out.1.p (by rw [HM9.out.1]; exact HM9.out.2)).mono ?_
            rintro e w10 ⟨rfl, hb10⟩
            have HP10 := Lib.hid (HP9.out.1.grown hb10)
            rw [HM9.out.1]
            clear hb10
            go_wp2_with fail
            refine (pLen19 T B9 K9 s9 w10 HP10.out.p (by rw [HM9.out.1]; exact HM9.out.2)).mono ?_
            rintro e w11 ⟨rfl, hb11⟩
            have HP11 := Lib.hid (HP10.out.grown hb11)
            rw [HM9.out.1]
            clear hb11 HP10
            go_wp2_with fail
            refine (pLen19 T B9 K9 s9 w11 HP11.out.p (by rw [HM9.out.1]; exact HM9.out.2)).mono ?_
            rintro e w12 ⟨rfl, hb12⟩
            have HP12 := Lib.hid (HP11.out.grown hb12)
            rw [HM9.out.1]
            clear hb12 HP11
            go_wp2_with fail
            refine (pEnded19 T B9 K9 s9 w12 HP12.out.p).mono ?_
            rintro e w13 ⟨rfl, hb13⟩
            have HP13 := Lib.hid (And.intro (HP12.out.grown hb13) HP9.out.2)
            rw [HP13.out.2.2]
            clear hb13 HP12 HP9
            go_wp2_with fail
            go_roundg (N - (k + 1))
            case measure => have := HKQ.out; omega
            case rel => exact ⟨k + 1, by omega, by go_num, s9, B9, K9, cs9, gs9, _, _, rfl, rfl, by rw [HP13.out.2.2], Lib.hid ⟨HP13.out.1, HP13.out.2.1⟩⟩
          · have HR2 := Lib.hid hrm
            clear hrm
            go_wp2_with fail
            refine (pPush19 T B K s F _ wr HP.out.1.p (HX.out.later19 HX.out HP.out.1.b) (fun g hg e => by have := HX.out.lt0 hg.1 hg.2; have := HP.out.1.gB g e; omega) HSm.out.1 HSm.out.2).mono ?_
            rintro e w3 ⟨B9, K9, rfl, h1, h2, h3, h4⟩
            rw [(pushQ_ok' F HE.out (Int.not_le.2 HR2.out)).1]
            rw [(pushQ_ok' F HE.out (Int.not_le.2 HR2.out)).2] at h1
            have HP3 := Lib.hid (show On19 w1 w3 T B9 K9 ({ s with l := s.l ++ [F] }) (.slice ac C kc) (.slice ag D kg) cs gs from
              HP.out.1.stepP h1 h2 h3 (fun g hg => (h4 g hg).imp_right (Or.imp_left (fun e => HX.out.lt0 e.1 e.2))))
            clear h1 h2 h3 h4 d0 d1 d2 d3 d4 d5
            obtain ⟨d0, d1, d2, d3, d4, d5⟩ := HA.out.below HP3.out.b
            obtain ⟨C9, hC9⟩ : ∃ C9, (cs ++ [(F, Value.slice pa F.pay.length pc)]).length = C9 := ⟨_, rfl⟩
            have HC9 := Lib.hid hC9
            obtain ⟨s9, hs9⟩ : ∃ s9, ({ s with l := s.l ++ [F] }) = s9 := ⟨_, rfl⟩
            have HS9 := Lib.hid hs9
            clear hC9 hs9
            go_wp2_with (at_builtin; refine app_frames_at rfl (.tmp 91) (.tmp 97) 42 rfl w1.heap.size w1.heap.size 34 Try.underlying42 Try.infoFr19 _ cs rfl (HP3.out.oc.alloc _) _ [(F, Value.slice pa F.pay.length pc)] rfl (one_row19 F _ HP3.out.b.size) (fun p hp => by rw [List.mem_singleton] at hp; subst hp; exact ⟨_, _, _, rfl⟩) (by have := HP.out.2.ck; simp; omega) (by have := HP3.out.b.size; simp; omega) ?_; intro v9 w9 own9 hb9 hg9 hat9; obtain ⟨a9, k9, e9, _⟩ := owned_shape own9; rw [HC9.out] at e9; subst e9; have HP9 := Lib.hid (show On19 w1 w9 T B9 K9 s9 (.slice a9 C9 k9) (.slice ag D kg) (cs ++ [(F, Value.slice pa F.pay.length pc)]) gs ∧ Inv19 nn (k + 1) s9 (cs ++ [(F, Value.slice pa F.pay.length pc)]) gs ∧ s9.ended = false from by have hh := HS9.out; subst hh; exact ⟨(HP3.out.grown ((Below.refl _ _).alloc (Nat.le_refl _) _)).addC hg9 own9 hat9 HX.out, HP.out.2.push (Int.not_le.2 HR2.out), by first | rfl | exact HE.out⟩); clear own9 hb9 hg9 hat9 d0 d1 d2 d3 d4 d5; obtain ⟨d0, d1, d2, d3, d4, d5⟩ := HA.out.below HP9.out.1.b)
            have hC9 := HC9.out
            have hD9 := HCD.out.2
            clear HP3 HC9 HS9 d0 d1 d2 d3 d4 d5 HP HRm
            generalize cs ++ [(F, Value.slice pa F.pay.length pc)] = cs9 at HP9 hC9
            generalize gs = gs9 at HP9 hD9
            generalize D = D9 at HP9 hD9 ⊢
            have hcs := HP9.out.2.1.ck
            have hln := HP9.out.2.1.len
            have hle := HP9.out.2.1.le
            have hle' := HP9.out.2.1.le'
            obtain ⟨M9, hM9⟩ : ∃ M9, s9.l.length = M9 := ⟨_, rfl⟩
            have HM9 := Lib.hid (show s9.l.length = M9 ∧ M9 ≤ 1000 from ⟨hM9, by omega⟩)
            have dB : decide ((nn : Int) + 1 < (M9 : Int)) = false := decide_eq_false (by omega)
            have dB' : decide (nn + 1 < M9) = false := decide_eq_false (by omega)
            have hne : ((M9 : Int) != (C9 : Int) - (D9 : Int)) = false := by simp; omega
            have hC1 : C9 ≤ 1000 := by omega
            have hD1 : D9 ≤ 1000 := by omega
            have hM1 : M9 ≤ 1000 := by omega
            have dA : decide ((nn : Int) < (M9 : Int)) = false := decide_eq_false (by have := hle' HP9.out.2.2; omega)
            have dA' : decide (nn < M9) = false := decide_eq_false (by have := hle' HP9.out.2.2; omega)
            clear hcs hln hle hle' hM9 hC9 hD9
            refine (pLen19 T B9 K9 s9 w9 HP9.out.1.p (by rw [HM9.out.1]; exact HM9.out.2)).mono ?_
            rintro e w10 ⟨rfl, hb10⟩
            have HP10 := Lib.hid (HP9.out.1.grown hb10)
            rw [HM9.out.1]
            clear hb10
            go_wp2_with fail
            refine (pLen19 T B9 K9 s9 w10 HP10.out.p (by rw [HM9.out.1]; exact HM9.out.2)).mono ?_
            rintro e w11 ⟨rfl, hb11⟩
            have HP11 := Lib.hid (HP10.out.grown hb11)
            rw [HM9.out.1]
            clear hb11 HP10
            go_wp2_with fail
            refine (pLen19 T B9 K9 s9 w11 HP11.out.p (by rw [HM9.out.1]; exact HM9.out.2)).mono ?_
            rintro e w12 ⟨rfl, hb12⟩
            have HP12 := Lib.hid (HP11.out.grown hb12)
            rw [HM9.out.1]
            clear hb12 HP11
            go_wp2_with fail
            refine (pEnded19 T B9 K9 s9 w12 HP12.out.p).mono ?_
            rintro e w13 ⟨rfl, hb13⟩
            have HP13 := Lib.hid (And.intro (HP12.out.grown hb13) HP9.out.2)
            rw [HP13.out.2.2]
            clear hb13 HP12 HP9
            go_wp2_with fail
            go_roundg (N - (k + 1))
            case measure => have := HKQ.out; omega
            case rel => exact ⟨k + 1, by omega, by go_num, s9, B9, K9, cs9, gs9, _, _, rfl, rfl, by rw [HP13.out.2.2], Lib.hid ⟨HP13.out.1, HP13.out.2.1⟩⟩
        · skip
          go_wp2_with fail
          refine (pPush19 T B K s F _ wr HP.out.1.p (HX.out.later19 HX.out HP.out.1.b) (fun g hg e => by have := HX.out.lt0 hg.1 hg.2; have := HP.out.1.gB g e; omega) HSm.out.1 HSm.out.2).mono ?_
          rintro e w3 ⟨B9, K9, rfl, h1, h2, h3, h4⟩
          rw [(pushQ_over F HE.out).1]
          rw [(pushQ_over F HE.out).2] at h1
          have HP9 := Lib.hid (show On19 w1 w3 T B9 K9 s (.slice ac C kc) (.slice ag D kg) cs gs ∧ Inv19 nn (k + 1) s cs gs ∧ s.ended = true from
            ⟨HP.out.1.stepP h1 h2 h3 (fun g hg => (h4 g hg).imp_right (Or.imp_left (fun e => HX.out.lt0 e.1 e.2))), HP.out.2.more, HE.out⟩)
          have hC9 := HCD.out.1
          have hD9 := HCD.out.2
          clear h1 h2 h3 h4 d0 d1 d2 d3 d4 d5 HP HRm
          generalize s = s9 at HP9
          generalize cs = cs9 at HP9 hC9
          generalize gs = gs9 at HP9 hD9
          generalize C = C9 at HP9 hC9 ⊢
          generalize D = D9 at HP9 hD9 ⊢
          generalize w3 = w9 at HP9 ⊢
          go_wp2_with fail
          have hcs := HP9.out.2.1.ck
          have hln := HP9.out.2.1.len
          have hle := HP9.out.2.1.le
          have hle' := HP9.out.2.1.le'
          obtain ⟨M9, hM9⟩ : ∃ M9, s9.l.length = M9 := ⟨_, rfl⟩
          have HM9 := Lib.hid (show s9.l.length = M9 ∧ M9 ≤ 1000 from ⟨hM9, by omega⟩)
          have dB : decide ((nn : Int) + 1 < (M9 : Int)) = false := decide_eq_false (by omega)
          have dB' : decide (nn + 1 < M9) = false := decide_eq_false (by omega)
          have hne : ((M9 : Int) != (C9 : Int) - (D9 : Int)) = false := by simp; omega
          have hC1 : C9 ≤ 1000 := by omega
          have hD1 : D9 ≤ 1000 := by omega
          have hM1 : M9 ≤ 1000 := by omega
          by_cases hA : (nn : Int) < (M9 : Int)
          · have dA : decide ((nn : Int) < (M9 : Int)) = true := decide_eq_true hA
            have dA' : decide (nn < M9) = true := decide_eq_true (by omega)
            clear hA
            clear hcs hln hle hle' hM9 hC9 hD9
            refine (pLen19 T B9 K9 s9 w9 HP9.out.1.p (by rw [HM9.out.1]; exact HM9.out.2)).mono ?_
            rintro e w10 ⟨rfl, hb10⟩
            have HP10 := Lib.hid (HP9.out.1.grown hb10)
            rw [HM9.out.1]
            clear hb10
            go_wp2_with fail
            refine (pLen19 T B9 K9 s9 w10 HP10.out.p (by rw [HM9.out.1]; exact HM9.out.2)).mono ?_
            rintro e w11 ⟨rfl, hb11⟩
            have HP11 := Lib.hid (HP10.out.grown hb11)
            rw [HM9.out.1]
            clear hb11 HP10
            go_wp2_with fail
            refine (pLen19 T B9 K9 s9 w11 HP11.out.p (by rw [HM9.out.1]; exact HM9.out.2)).mono ?_
            rintro e w12 ⟨rfl, hb12⟩
            have HP12 := Lib.hid (HP11.out.grown hb12)
            rw [HM9.out.1]
            clear hb12 HP11
            go_wp2_with fail
            refine (pEnded19 T B9 K9 s9 w12 HP12.out.p).mono ?_
            rintro e w13 ⟨rfl, hb13⟩
            have HP13 := Lib.hid (And.intro (HP12.out.grown hb13) HP9.out.2)
            rw [HP13.out.2.2]
            clear hb13 HP12 HP9
            go_wp2_with fail
            go_roundg (N - (k + 1))
            case measure => have := HKQ.out; omega
            case rel => exact ⟨k + 1, by omega, by go_num, s9, B9, K9, cs9, gs9, _, _, rfl, rfl, by rw [HP13.out.2.2], Lib.hid ⟨HP13.out.1, HP13.out.2.1⟩⟩
          · have dA : decide ((nn : Int) < (M9 : Int)) = false := decide_eq_false hA
            have dA' : decide (nn < M9) = false := decide_eq_false (by omega)
            clear hA
            clear hcs hln hle hle' hM9 hC9 hD9
            refine (pLen19 T B9 K9 s9 w9 HP9.out.1.p (by rw [HM9.out.1]; exact HM9.out.2)).mono ?_
            rintro e w10 ⟨rfl, hb10⟩
            have HP10 := Lib.hid (HP9.out.1.grown hb10)
            rw [HM9.out.1]
            clear hb10
            go_wp2_with fail
            refine (pLen19 T B9 K9 s9 w10 HP10.out.p (by rw [HM9.out.1]; exact HM9.out.2)).mono ?_
            rintro e w11 ⟨rfl, hb11⟩
            have HP11 := Lib.hid (HP10.out.grown hb11)
            rw [HM9.out.1]
            clear hb11 HP10
            go_wp2_with fail
            refine (pLen19 T B9 K9 s9 w11 HP11.out.p (by rw [HM9.out.1]; exact HM9.out.2)).mono ?_
            rintro e w12 ⟨rfl, hb12⟩
            have HP12 := Lib.hid (HP11.out.grown hb12)
            rw [HM9.out.1]
            clear hb12 HP11
            go_wp2_with fail
            refine (pEnded19 T B9 K9 s9 w12 HP12.out.p).mono ?_
            rintro e w13 ⟨rfl, hb13⟩
            have HP13 := Lib.hid (And.intro (HP12.out.grown hb13) HP9.out.2)
            rw [HP13.out.2.2]
            clear hb13 HP12 HP9
            go_wp2_with fail
            go_roundg (N - (k + 1))
            case measure => have := HKQ.out; omega
            case rel => exact ⟨k + 1, by omega, by go_num, s9, B9, K9, cs9, gs9, _, _, rfl, rfl, by rw [HP13.out.2.2], Lib.hid ⟨HP13.out.1, HP13.out.2.1⟩⟩
      · have e3 : decide (xk % 6 < 3) = false := decide_eq_false h3
        clear h3
        obtain ⟨b5, e5⟩ : ∃ b5, (xk % 6 == 5) = b5 := ⟨_, rfl⟩
        cases b5
        · skip
          go_wp2_with fail
          refine (pPop19 T B K s wr HP.out.1.p HSm.out.1).mono ?_
          rintro e x3 ⟨B9, K9, pv3, rfl, h1, h2, h3, h4, h5, h6⟩
          obtain ⟨a3, c3, rfl, _⟩ := id h3
          obtain ⟨pb, hpb⟩ : ∃ pb, popB s = pb := ⟨_, rfl⟩
          rw [hpb]
          have HG := Lib.hid (show On19 w1 x3 T B9 K9 (popQ s) (.slice ac C kc) (.slice ag D kg) cs gs ∧ Sl .u8 x3 (.slice a3 (popF s).pay.length c3) (popF s).pay ∧ ∀ g, PayB (popF s) (.slice a3 (popF s).pay.length c3) g → ¬ B9 g ∧ (Value.slice ac C kc).ownBlock ≠ some g ∧ (Value.slice ag D kg).ownBlock ≠ some g from
            ⟨HP.out.1.stepP h1 h2 h5 (fun g hg => (h6 g hg).imp_right .inr), h3, fun g hg => by
              obtain ⟨h7, h8⟩ := h4 g hg
              refine ⟨h8, fun e => ?_, fun e => ?_⟩
              · rcases h7 with h7 | h7
                · exact (HP.out.1.nc g e).2 h7
                · have := (HP.out.1.oc.lt g e).2; omega
              · rcases h7 with h7 | h7
                · exact (HP.out.1.ng g e).2 h7
                · have := (HP.out.1.og.lt g e).2; omega⟩)
          clear h1 h2 h3 h4 h5 h6
          cases pb
          · obtain ⟨hq1, _⟩ := popQ_none hpb
            rw [hq1] at HG
            clear hpb
            go_wp2_with fail
            obtain ⟨w9, hw9⟩ : ∃ w9, x3.alloc (.cells #[.int .i64 (popF s).kind, .int .i64 (popF s).flags, .int .i64 (popF s).stream, .slice a3 (popF s).pay.length c3] 34) = w9 := ⟨_, rfl⟩
            have HB9 := Lib.hid (show Below x3.heap.size x3 w9 from by rw [← hw9]; exact (Below.refl _ _).alloc (Nat.le_refl _) _)
            rw [hw9]
            have HP9 := Lib.hid (show On19 w1 w9 T B9 K9 s (.slice ac C kc) (.slice ag D kg) cs gs ∧ Inv19 nn (k + 1) s cs gs ∧ s.ended = ee from ⟨HG.out.1.grown HB9.out, HP.out.2.more, HE.out⟩)
            have hC9 := HCD.out.1
            have hD9 := HCD.out.2
            clear hw9 HB9 HG HP HRm d0 d1 d2 d3 d4 d5 hq1
            generalize cs = cs9 at HP9 hC9
            generalize gs = gs9 at HP9 hD9
            generalize C = C9 at HP9 hC9 ⊢
            generalize D = D9 at HP9 hD9 ⊢
            cases ee
            · generalize s = s9 at HP9 ⊢
              have hcs := HP9.out.2.1.ck
              have hln := HP9.out.2.1.len
              have hle := HP9.out.2.1.le
              have hle' := HP9.out.2.1.le'
              obtain ⟨M9, hM9⟩ : ∃ M9, s9.l.length = M9 := ⟨_, rfl⟩
              have HM9 := Lib.hid (show s9.l.length = M9 ∧ M9 ≤ 1000 from ⟨hM9, by omega⟩)
              have dB : decide ((nn : Int) + 1 < (M9 : Int)) = false := decide_eq_false (by omega)
              have dB' : decide (nn + 1 < M9) = false := decide_eq_false (by omega)
              have hne : ((M9 : Int) != (C9 : Int) - (D9 : Int)) = false := by simp; omega
              have hC1 : C9 ≤ 1000 := by omega
              have hD1 : D9 ≤ 1000 := by omega
              have hM1 : M9 ≤ 1000 := by omega
              have dA : decide ((nn : Int) < (M9 : Int)) = false := decide_eq_false (by have := hle' HP9.out.2.2; omega)
              have dA' : decide (nn < M9) = false := decide_eq_false (by have := hle' HP9.out.2.2; omega)
              clear hcs hln hle hle' hM9 hC9 hD9
              refine (pLen19 T B9 K9 s9 w9 HP9.out.1.p (by rw [HM9.out.1]; exact HM9.out.2)).mono ?_
              rintro e w10 ⟨rfl, hb10⟩
              have HP10 := Lib.hid (HP9.out.1.grown hb10)
              rw [HM9.out.1]
              clear hb10
              go_wp2_with fail
              refine (pLen19 T B9 K9 s9 w10 HP10.out.p (by rw [HM9.out.1]; exact HM9.out.2)).mono ?_
              rintro e w11 ⟨rfl, hb11⟩
              have HP11 := Lib.hid (HP10.out.grown hb11)
              rw [HM9.out.1]
              clear hb11 HP10
              go_wp2_with fail
              refine (pLen19 T B9 K9 s9 w11 HP11.out.p (by rw [HM9.out.1]; exact HM9.out.2)).mono ?_
              rintro e w12 ⟨rfl, hb12⟩
              have HP12 := Lib.hid (HP11.out.grown hb12)
              rw [HM9.out.1]
              clear hb12 HP11
              go_wp2_with fail
              refine (pEnded19 T B9 K9 s9 w12 HP12.out.p).mono ?_
              rintro e w13 ⟨rfl, hb13⟩
              have HP13 := Lib.hid (And.intro (HP12.out.grown hb13) HP9.out.2)
              rw [HP13.out.2.2]
              clear hb13 HP12 HP9
              go_wp2_with fail
              go_roundg (N - (k + 1))
              case measure => have := HKQ.out; omega
              case rel => exact ⟨k + 1, by omega, by go_num, s9, B9, K9, cs9, gs9, _, _, rfl, rfl, by rw [HP13.out.2.2], Lib.hid ⟨HP13.out.1, HP13.out.2.1⟩⟩
            · generalize s = s9 at HP9 ⊢
              have hcs := HP9.out.2.1.ck
              have hln := HP9.out.2.1.len
              have hle := HP9.out.2.1.le
              have hle' := HP9.out.2.1.le'
              obtain ⟨M9, hM9⟩ : ∃ M9, s9.l.length = M9 := ⟨_, rfl⟩
              have HM9 := Lib.hid (show s9.l.length = M9 ∧ M9 ≤ 1000 from ⟨hM9, by omega⟩)
              have dB : decide ((nn : Int) + 1 < (M9 : Int)) = false := decide_eq_false (by omega)
              have dB' : decide (nn + 1 < M9) = false := decide_eq_false (by omega)
              have hne : ((M9 : Int) != (C9 : Int) - (D9 : Int)) = false := by simp; omega
              have hC1 : C9 ≤ 1000 := by omega
              have hD1 : D9 ≤ 1000 := by omega
              have hM1 : M9 ≤ 1000 := by omega
              by_cases hA : (nn : Int) < (M9 : Int)
              · have dA : decide ((nn : Int) < (M9 : Int)) = true := decide_eq_true hA
                have dA' : decide (nn < M9) = true := decide_eq_true (by omega)
                clear hA
                clear hcs hln hle hle' hM9 hC9 hD9
                refine (pLen19 T B9 K9 s9 w9 HP9.out.1.p (by rw [HM9.out.1]; exact HM9.out.2)).mono ?_
                rintro e w10 ⟨rfl, hb10⟩
                have HP10 := Lib.hid (HP9.out.1.grown hb10)
                rw [HM9.out.1]
                clear hb10
                go_wp2_with fail
                refine (pLen19 T B9 K9 s9 w10 HP10.out.p (by rw [HM9.out.1]; exact HM9.out.2)).mono ?_
                rintro e w11 ⟨rfl, hb11⟩
                have HP11 := Lib.hid (HP10.out.grown hb11)
                rw [HM9.out.1]
                clear hb11 HP10
                go_wp2_with fail
                refine (pLen19 T B9 K9 s9 w11 HP11.out.p (by rw [HM9.out.1]; exact HM9.out.2)).mono ?_
                rintro e w12 ⟨rfl, hb12⟩
                have HP12 := Lib.hid (HP11.out.grown hb12)
                rw [HM9.out.1]
                clear hb12 HP11
                go_wp2_with fail
                refine (pEnded19 T B9 K9 s9 w12 HP12.out.p).mono ?_
                rintro e w13 ⟨rfl, hb13⟩
                have HP13 := Lib.hid (And.intro (HP12.out.grown hb13) HP9.out.2)
                rw [HP13.out.2.2]
                clear hb13 HP12 HP9
                go_wp2_with fail
                go_roundg (N - (k + 1))
                case measure => have := HKQ.out; omega
                case rel => exact ⟨k + 1, by omega, by go_num, s9, B9, K9, cs9, gs9, _, _, rfl, rfl, by rw [HP13.out.2.2], Lib.hid ⟨HP13.out.1, HP13.out.2.1⟩⟩
              · have dA : decide ((nn : Int) < (M9 : Int)) = false := decide_eq_false hA
                have dA' : decide (nn < M9) = false := decide_eq_false (by omega)
                clear hA
                clear hcs hln hle hle' hM9 hC9 hD9
                refine (pLen19 T B9 K9 s9 w9 HP9.out.1.p (by rw [HM9.out.1]; exact HM9.out.2)).mono ?_
                rintro e w10 ⟨rfl, hb10⟩
                have HP10 := Lib.hid (HP9.out.1.grown hb10)
                rw [HM9.out.1]
                clear hb10
                go_wp2_with fail
                refine (pLen19 T B9 K9 s9 w10 HP10.out.p (by rw [HM9.out.1]; exact HM9.out.2)).mono ?_
                rintro e w11 ⟨rfl, hb11⟩
                have HP11 := Lib.hid (HP10.out.grown hb11)
                rw [HM9.out.1]
                clear hb11 HP10
                go_wp2_with fail
                refine (pLen19 T B9 K9 s9 w11 HP11.out.p (by rw [HM9.out.1]; exact HM9.out.2)).mono ?_
                rintro e w12 ⟨rfl, hb12⟩
                have HP12 := Lib.hid (HP11.out.grown hb12)
                rw [HM9.out.1]
                clear hb12 HP11
                go_wp2_with fail
                refine (pEnded19 T B9 K9 s9 w12 HP12.out.p).mono ?_
                rintro e w13 ⟨rfl, hb13⟩
                have HP13 := Lib.hid (And.intro (HP12.out.grown hb13) HP9.out.2)
                rw [HP13.out.2.2]
                clear hb13 HP12 HP9
                go_wp2_with fail
                go_roundg (N - (k + 1))
                case measure => have := HKQ.out; omega
                case rel => exact ⟨k + 1, by omega, by go_num, s9, B9, K9, cs9, gs9, _, _, rfl, rfl, by rw [HP13.out.2.2], Lib.hid ⟨HP13.out.1, HP13.out.2.1⟩⟩
          · have HPb := Lib.hid hpb
            clear hpb
            obtain ⟨D9, hD9⟩ : ∃ D9, (gs ++ [(popF s, Value.slice a3 (popF s).pay.length c3)]).length = D9 := ⟨_, rfl⟩
            have HD9 := Lib.hid hD9
            clear hD9
            have HRow := Lib.hid (show ((x3.alloc (.cells #[.int .i64 (popF s).kind, .int .i64 (popF s).flags, .int .i64 (popF s).stream, .slice a3 (popF s).pay.length c3] 34)).alloc (.cells #[.int .i64 (popF s).kind, .int .i64 (popF s).flags, .int .i64 (popF s).stream, .slice a3 (popF s).pay.length c3] 34)).ownsRow w1.heap.size 34 4 (.slice (some ⟨x3.heap.size + 1, 0, none⟩) 1 1) 1 (flat [(popF s, Value.slice a3 (popF s).pay.length c3)]) from by
              have h1 := one_row19 (w := x3.alloc (.cells #[.int .i64 (popF s).kind, .int .i64 (popF s).flags, .int .i64 (popF s).stream, .slice a3 (popF s).pay.length c3] 34)) (base := w1.heap.size) (popF s) (.slice a3 (popF s).pay.length c3) (by have := HG.out.1.b.size; simp; omega)
              rw [show (x3.alloc (.cells #[.int .i64 (popF s).kind, .int .i64 (popF s).flags, .int .i64 (popF s).stream, .slice a3 (popF s).pay.length c3] 34)).heap.size = x3.heap.size + 1 from by simp] at h1
              exact h1)
            go_wp2_with (at_builtin; refine app_frames_at rfl (.tmp 80) (.tmp 82) 42 rfl w1.heap.size w1.heap.size 34 Try.underlying42 Try.infoFr19 _ gs rfl ((HG.out.1.og.alloc _).alloc _) _ [(popF s, Value.slice a3 (popF s).pay.length c3)] rfl HRow.out (fun p hp => by rw [List.mem_singleton] at hp; subst hp; exact ⟨_, _, _, rfl⟩) (by have := HP.out.2.ck; have := HP.out.2.len; simp; omega) (by have := HG.out.1.b.size; simp; omega) ?_; intro v9 w9 own9 hb9 hg9 hat9; obtain ⟨a9, k9, e9, _⟩ := owned_shape own9; rw [HD9.out] at e9; subst e9; have HGA := Lib.hid (show On19 w1 w9 T B9 K9 (popQ s) (.slice ac C kc) (.slice a9 D9 k9) cs (gs ++ [(popF s, Value.slice a3 (popF s).pay.length c3)]) from (HG.out.1.grown (((Below.refl _ _).alloc (Nat.le_refl _) _).alloc (by simp) _)).addG hg9 own9 hat9 (HG.out.2.1.below (((Below.refl _ _).alloc (Nat.le_refl _) _).alloc (by simp) _)) HG.out.2.2); clear own9 hb9 hg9 hat9)
            have HP9 := Lib.hid (show On19 w1 w9 T B9 K9 (popQ s) (.slice ac C kc) (.slice a9 D9 k9) cs (gs ++ [(popF s, Value.slice a3 (popF s).pay.length c3)]) ∧ Inv19 nn (k + 1) (popQ s) cs (gs ++ [(popF s, Value.slice a3 (popF s).pay.length c3)]) ∧ (popQ s).ended = ee from ⟨HGA.out, (HP.out.2.pop HPb.out).more, HE.out⟩)
            have hC9 := HCD.out.1
            have hD9 := HD9.out
            clear HGA HG HP HRm d0 d1 d2 d3 d4 d5
            generalize cs = cs9 at HP9 hC9
            generalize gs ++ [(popF s, Value.slice a3 (popF s).pay.length c3)] = gs9 at HP9 hD9
            generalize C = C9 at HP9 hC9 ⊢
            obtain ⟨s9, hs9⟩ : ∃ s9, popQ s = s9 := ⟨_, rfl⟩
            rw [hs9] at HP9
            clear hs9
            cases ee
            · skip
              have hcs := HP9.out.2.1.ck
              have hln := HP9.out.2.1.len
              have hle := HP9.out.2.1.le
              have hle' := HP9.out.2.1.le'
              obtain ⟨M9, hM9⟩ : ∃ M9, s9.l.length = M9 := ⟨_, rfl⟩
              have HM9 := Lib.hid (show s9.l.length = M9 ∧ M9 ≤ 1000 from ⟨hM9, by omega⟩)
              have dB : decide ((nn : Int) + 1 < (M9 : Int)) = false := decide_eq_false (by omega)
              have dB' : decide (nn + 1 < M9) = false := decide_eq_false (by omega)
              have hne : ((M9 : Int) != (C9 : Int) - (D9 : Int)) = false := by simp; omega
              have hC1 : C9 ≤ 1000 := by omega
              have hD1 : D9 ≤ 1000 := by omega
              have hM1 : M9 ≤ 1000 := by omega
              have dA : decide ((nn : Int) < (M9 : Int)) = false := decide_eq_false (by have := hle' HP9.out.2.2; omega)
              have dA' : decide (nn < M9) = false := decide_eq_false (by have := hle' HP9.out.2.2; omega)
              clear hcs hln hle hle' hM9 hC9 hD9
              refine (pLen19 T B9 K9 s9 w9 HP9.out.1.p (by rw [HM9.out.1]; exact HM9.out.2)).mono ?_
              rintro e w10 ⟨rfl, hb10⟩
              have HP10 := Lib.hid (HP9.out.1.grown hb10)
              rw [HM9.out.1]
              clear hb10
              go_wp2_with fail
              refine (pLen19 T B9 K9 s9 w10 HP10.out.p (by rw [HM9.out.1]; exact HM9.out.2)).mono ?_
              rintro e w11 ⟨rfl, hb11⟩
              have HP11 := Lib.hid (HP10.out.grown hb11)
              rw [HM9.out.1]
              clear hb11 HP10
              go_wp2_with fail
              refine (pLen19 T B9 K9 s9 w11 HP11.out.p (by rw [HM9.out.1]; exact HM9.out.2)).mono ?_
              rintro e w12 ⟨rfl, hb12⟩
              have HP12 := Lib.hid (HP11.out.grown hb12)
              rw [HM9.out.1]
              clear hb12 HP11
              go_wp2_with fail
              refine (pEnded19 T B9 K9 s9 w12 HP12.out.p).mono ?_
              rintro e w13 ⟨rfl, hb13⟩
              have HP13 := Lib.hid (And.intro (HP12.out.grown hb13) HP9.out.2)
              rw [HP13.out.2.2]
              clear hb13 HP12 HP9
              go_wp2_with fail
              go_roundg (N - (k + 1))
              case measure => have := HKQ.out; omega
              case rel => exact ⟨k + 1, by omega, by go_num, s9, B9, K9, cs9, gs9, _, _, rfl, rfl, by rw [HP13.out.2.2], Lib.hid ⟨HP13.out.1, HP13.out.2.1⟩⟩
            · skip
              have hcs := HP9.out.2.1.ck
              have hln := HP9.out.2.1.len
              have hle := HP9.out.2.1.le
              have hle' := HP9.out.2.1.le'
              obtain ⟨M9, hM9⟩ : ∃ M9, s9.l.length = M9 := ⟨_, rfl⟩
              have HM9 := Lib.hid (show s9.l.length = M9 ∧ M9 ≤ 1000 from ⟨hM9, by omega⟩)
              have dB : decide ((nn : Int) + 1 < (M9 : Int)) = false := decide_eq_false (by omega)
              have dB' : decide (nn + 1 < M9) = false := decide_eq_false (by omega)
              have hne : ((M9 : Int) != (C9 : Int) - (D9 : Int)) = false := by simp; omega
              have hC1 : C9 ≤ 1000 := by omega
              have hD1 : D9 ≤ 1000 := by omega
              have hM1 : M9 ≤ 1000 := by omega
              by_cases hA : (nn : Int) < (M9 : Int)
              · have dA : decide ((nn : Int) < (M9 : Int)) = true := decide_eq_true hA
                have dA' : decide (nn < M9) = true := decide_eq_true (by omega)
                clear hA
                clear hcs hln hle hle' hM9 hC9 hD9
                refine (pLen19 T B9 K9 s9 w9 HP9.out.1.p (by rw [HM9.out.1]; exact HM9.out.2)).mono ?_
                rintro e w10 ⟨rfl, hb10⟩
                have HP10 := Lib.hid (HP9.out.1.grown hb10)
                rw [HM9.out.1]
                clear hb10
                go_wp2_with fail
                refine (pLen19 T B9 K9 s9 w10 HP10.out.p (by rw [HM9.out.1]; exact HM9.out.2)).mono ?_
                rintro e w11 ⟨rfl, hb11⟩
                have HP11 := Lib.hid (HP10.out.grown hb11)
                rw [HM9.out.1]
                clear hb11 HP10
                go_wp2_with fail
                refine (pLen19 T B9 K9 s9 w11 HP11.out.p (by rw [HM9.out.1]; exact HM9.out.2)).mono ?_
                rintro e w12 ⟨rfl, hb12⟩
                have HP12 := Lib.hid (HP11.out.grown hb12)
                rw [HM9.out.1]
                clear hb12 HP11
                go_wp2_with fail
                refine (pEnded19 T B9 K9 s9 w12 HP12.out.p).mono ?_
                rintro e w13 ⟨rfl, hb13⟩
                have HP13 := Lib.hid (And.intro (HP12.out.grown hb13) HP9.out.2)
                rw [HP13.out.2.2]
                clear hb13 HP12 HP9
                go_wp2_with fail
                go_roundg (N - (k + 1))
                case measure => have := HKQ.out; omega
                case rel => exact ⟨k + 1, by omega, by go_num, s9, B9, K9, cs9, gs9, _, _, rfl, rfl, by rw [HP13.out.2.2], Lib.hid ⟨HP13.out.1, HP13.out.2.1⟩⟩
              · have dA : decide ((nn : Int) < (M9 : Int)) = false := decide_eq_false hA
                have dA' : decide (nn < M9) = false := decide_eq_false (by omega)
                clear hA
                clear hcs hln hle hle' hM9 hC9 hD9
                refine (pLen19 T B9 K9 s9 w9 HP9.out.1.p (by rw [HM9.out.1]; exact HM9.out.2)).mono ?_
                rintro e w10 ⟨rfl, hb10⟩
                have HP10 := Lib.hid (HP9.out.1.grown hb10)
                rw [HM9.out.1]
                clear hb10
                go_wp2_with fail
                refine (pLen19 T B9 K9 s9 w10 HP10.out.p (by rw [HM9.out.1]; exact HM9.out.2)).mono ?_
                rintro e w11 ⟨rfl, hb11⟩
                have HP11 := Lib.hid (HP10.out.grown hb11)
                rw [HM9.out.1]
                clear hb11 HP10
                go_wp2_with fail
                refine (pLen19 T B9 K9 s9 w11 HP11.out.p (by rw [HM9.out.1]; exact HM9.out.2)).mono ?_
                rintro e w12 ⟨rfl, hb12⟩
                have HP12 := Lib.hid (HP11.out.grown hb12)
                rw [HM9.out.1]
                clear hb12 HP11
                go_wp2_with fail
                refine (pEnded19 T B9 K9 s9 w12 HP12.out.p).mono ?_
                rintro e w13 ⟨rfl, hb13⟩
                have HP13 := Lib.hid (And.intro (HP12.out.grown hb13) HP9.out.2)
                rw [HP13.out.2.2]
                clear hb13 HP12 HP9
                go_wp2_with fail
                go_roundg (N - (k + 1))
                case measure => have := HKQ.out; omega
                case rel => exact ⟨k + 1, by omega, by go_num, s9, B9, K9, cs9, gs9, _, _, rfl, rfl, by rw [HP13.out.2.2], Lib.hid ⟨HP13.out.1, HP13.out.2.1⟩⟩
        · cases ee
          · skip
            go_wp2_with fail
            refine (pLast19 T B K s F _ wr HP.out.1.p (HX.out.later19 HX.out HP.out.1.b) (fun g hg e => by have := HX.out.lt0 hg.1 hg.2; have := HP.out.1.gB g e; omega) HSm.out.1 HSm.out.2).mono ?_
            rintro e w3 ⟨B9, K9, rfl, h1, h2, h3, h4⟩
            rw [(lastQ_ok' F HE.out).1]
            rw [(lastQ_ok' F HE.out).2] at h1
            have HP3 := Lib.hid (show On19 w1 w3 T B9 K9 ({ s with l := s.l ++ [F], ended := true }) (.slice ac C kc) (.slice ag D kg) cs gs from
              HP.out.1.stepP h1 h2 h3 (fun g hg => (h4 g hg).imp_right (Or.imp_left (fun e => HX.out.lt0 e.1 e.2))))
            clear h1 h2 h3 h4 d0 d1 d2 d3 d4 d5
            obtain ⟨d0, d1, d2, d3, d4, d5⟩ := HA.out.below HP3.out.b
            obtain ⟨C9, hC9⟩ : ∃ C9, (cs ++ [(F, Value.slice pa F.pay.length pc)]).length = C9 := ⟨_, rfl⟩
            have HC9 := Lib.hid hC9
            obtain ⟨s9, hs9⟩ : ∃ s9, ({ s with l := s.l ++ [F], ended := true }) = s9 := ⟨_, rfl⟩
            have HS9 := Lib.hid hs9
            clear hC9 hs9
            go_wp2_with (at_builtin; refine app_frames_at rfl (.tmp 91) (.tmp 97) 42 rfl w1.heap.size w1.heap.size 34 Try.underlying42 Try.infoFr19 _ cs rfl (HP3.out.oc.alloc _) _ [(F, Value.slice pa F.pay.length pc)] rfl (one_row19 F _ HP3.out.b.size) (fun p hp => by rw [List.mem_singleton] at hp; subst hp; exact ⟨_, _, _, rfl⟩) (by have := HP.out.2.ck; simp; omega) (by have := HP3.out.b.size; simp; omega) ?_; intro v9 w9 own9 hb9 hg9 hat9; obtain ⟨a9, k9, e9, _⟩ := owned_shape own9; rw [HC9.out] at e9; subst e9; have HP9 := Lib.hid (show On19 w1 w9 T B9 K9 s9 (.slice a9 C9 k9) (.slice ag D kg) (cs ++ [(F, Value.slice pa F.pay.length pc)]) gs ∧ Inv19 nn (k + 1) s9 (cs ++ [(F, Value.slice pa F.pay.length pc)]) gs ∧ s9.ended = true from by have hh := HS9.out; subst hh; exact ⟨(HP3.out.grown ((Below.refl _ _).alloc (Nat.le_refl _) _)).addC hg9 own9 hat9 HX.out, HP.out.2.last HE.out, by first | rfl | exact HE.out⟩); clear own9 hb9 hg9 hat9 d0 d1 d2 d3 d4 d5; obtain ⟨d0, d1, d2, d3, d4, d5⟩ := HA.out.below HP9.out.1.b)
            have hC9 := HC9.out
            have hD9 := HCD.out.2
            clear HP3 HC9 HS9 d0 d1 d2 d3 d4 d5 HP HRm
            generalize cs ++ [(F, Value.slice pa F.pay.length pc)] = cs9 at HP9 hC9
            generalize gs = gs9 at HP9 hD9
            generalize D = D9 at HP9 hD9 ⊢
            have hcs := HP9.out.2.1.ck
            have hln := HP9.out.2.1.len
            have hle := HP9.out.2.1.le
            have hle' := HP9.out.2.1.le'
            obtain ⟨M9, hM9⟩ : ∃ M9, s9.l.length = M9 := ⟨_, rfl⟩
            have HM9 := Lib.hid (show s9.l.length = M9 ∧ M9 ≤ 1000 from ⟨hM9, by omega⟩)
            have dB : decide ((nn : Int) + 1 < (M9 : Int)) = false := decide_eq_false (by omega)
            have dB' : decide (nn + 1 < M9) = false := decide_eq_false (by omega)
            have hne : ((M9 : Int) != (C9 : Int) - (D9 : Int)) = false := by simp; omega
            have hC1 : C9 ≤ 1000 := by omega
            have hD1 : D9 ≤ 1000 := by omega
            have hM1 : M9 ≤ 1000 := by omega
            by_cases hA : (nn : Int) < (M9 : Int)
            · have dA : decide ((nn : Int) < (M9 : Int)) = true := decide_eq_true hA
              have dA' : decide (nn < M9) = true := decide_eq_true (by omega)
              clear hA
              clear hcs hln hle hle' hM9 hC9 hD9
              refine (pLen19 T B9 K9 s9 w9 HP9.out.1.p (by rw [HM9.out.1]; exact HM9.out.2)).mono ?_
              rintro e w10 ⟨rfl, hb10⟩
              have HP10 := Lib.hid (HP9.out.1.grown hb10)
              rw [HM9.out.1]
              clear hb10
              go_wp2_with fail
              refine (pLen19 T B9 K9 s9 w10 HP10.out.p (by rw [HM9.out.1]; exact HM9.out.2)).mono ?_
              rintro e w11 ⟨rfl, hb11⟩
              have HP11 := Lib.hid (HP10.out.grown hb11)
              rw [HM9.out.1]
              clear hb11 HP10
              go_wp2_with fail
              refine (pLen19 T B9 K9 s9 w11 HP11.out.p (by rw [HM9.out.1]; exact HM9.out.2)).mono ?_
              rintro e w12 ⟨rfl, hb12⟩
              have HP12 := Lib.hid (HP11.out.grown hb12)
              rw [HM9.out.1]
              clear hb12 HP11
              go_wp2_with fail
              refine (pEnded19 T B9 K9 s9 w12 HP12.out.p).mono ?_
              rintro e w13 ⟨rfl, hb13⟩
              have HP13 := Lib.hid (And.intro (HP12.out.grown hb13) HP9.out.2)
              rw [HP13.out.2.2]
              clear hb13 HP12 HP9
              go_wp2_with fail
              go_roundg (N - (k + 1))
              case measure => have := HKQ.out; omega
              case rel => exact ⟨k + 1, by omega, by go_num, s9, B9, K9, cs9, gs9, _, _, rfl, rfl, by rw [HP13.out.2.2], Lib.hid ⟨HP13.out.1, HP13.out.2.1⟩⟩
            · have dA : decide ((nn : Int) < (M9 : Int)) = false := decide_eq_false hA
              have dA' : decide (nn < M9) = false := decide_eq_false (by omega)
              clear hA
              clear hcs hln hle hle' hM9 hC9 hD9
              refine (pLen19 T B9 K9 s9 w9 HP9.out.1.p (by rw [HM9.out.1]; exact HM9.out.2)).mono ?_
              rintro e w10 ⟨rfl, hb10⟩
              have HP10 := Lib.hid (HP9.out.1.grown hb10)
              rw [HM9.out.1]
              clear hb10
              go_wp2_with fail
              refine (pLen19 T B9 K9 s9 w10 HP10.out.p (by rw [HM9.out.1]; exact HM9.out.2)).mono ?_
              rintro e w11 ⟨rfl, hb11⟩
              have HP11 := Lib.hid (HP10.out.grown hb11)
              rw [HM9.out.1]
              clear hb11 HP10
              go_wp2_with fail
              refine (pLen19 T B9 K9 s9 w11 HP11.out.p (by rw [HM9.out.1]; exact HM9.out.2)).mono ?_
              rintro e w12 ⟨rfl, hb12⟩
              have HP12 := Lib.hid (HP11.out.grown hb12)
              rw [HM9.out.1]
              clear hb12 HP11
              go_wp2_with fail
              refine (pEnded19 T B9 K9 s9 w12 HP12.out.p).mono ?_
              rintro e w13 ⟨rfl, hb13⟩
              have HP13 := Lib.hid (And.intro (HP12.out.grown hb13) HP9.out.2)
              rw [HP13.out.2.2]
              clear hb13 HP12 HP9
              go_wp2_with fail
              go_roundg (N - (k + 1))
              case measure => have := HKQ.out; omega
              case rel => exact ⟨k + 1, by omega, by go_num, s9, B9, K9, cs9, gs9, _, _, rfl, rfl, by rw [HP13.out.2.2], Lib.hid ⟨HP13.out.1, HP13.out.2.1⟩⟩
          · skip
            go_wp2_with fail
            refine (pLast19 T B K s F _ wr HP.out.1.p (HX.out.later19 HX.out HP.out.1.b) (fun g hg e => by have := HX.out.lt0 hg.1 hg.2; have := HP.out.1.gB g e; omega) HSm.out.1 HSm.out.2).mono ?_
            rintro e w3 ⟨B9, K9, rfl, h1, h2, h3, h4⟩
            rw [(lastQ_over F HE.out).1]
            rw [(lastQ_over F HE.out).2] at h1
            have HP9 := Lib.hid (show On19 w1 w3 T B9 K9 s (.slice ac C kc) (.slice ag D kg) cs gs ∧ Inv19 nn (k + 1) s cs gs ∧ s.ended = true from
              ⟨HP.out.1.stepP h1 h2 h3 (fun g hg => (h4 g hg).imp_right (Or.imp_left (fun e => HX.out.lt0 e.1 e.2))), HP.out.2.more, HE.out⟩)
            have hC9 := HCD.out.1
            have hD9 := HCD.out.2
            clear h1 h2 h3 h4 d0 d1 d2 d3 d4 d5 HP HRm
            generalize s = s9 at HP9
            generalize cs = cs9 at HP9 hC9
            generalize gs = gs9 at HP9 hD9
            generalize C = C9 at HP9 hC9 ⊢
            generalize D = D9 at HP9 hD9 ⊢
            generalize w3 = w9 at HP9 ⊢
            go_wp2_with fail
            have hcs := HP9.out.2.1.ck
            have hln := HP9.out.2.1.len
            have hle := HP9.out.2.1.le
            have hle' := HP9.out.2.1.le'
            obtain ⟨M9, hM9⟩ : ∃ M9, s9.l.length = M9 := ⟨_, rfl⟩
            have HM9 := Lib.hid (show s9.l.length = M9 ∧ M9 ≤ 1000 from ⟨hM9, by omega⟩)
            have dB : decide ((nn : Int) + 1 < (M9 : Int)) = false := decide_eq_false (by omega)
            have dB' : decide (nn + 1 < M9) = false := decide_eq_false (by omega)
            have hne : ((M9 : Int) != (C9 : Int) - (D9 : Int)) = false := by simp; omega
            have hC1 : C9 ≤ 1000 := by omega
            have hD1 : D9 ≤ 1000 := by omega
            have hM1 : M9 ≤ 1000 := by omega
            by_cases hA : (nn : Int) < (M9 : Int)
            · have dA : decide ((nn : Int) < (M9 : Int)) = true := decide_eq_true hA
              have dA' : decide (nn < M9) = true := decide_eq_true (by omega)
              clear hA
              clear hcs hln hle hle' hM9 hC9 hD9
              refine (pLen19 T B9 K9 s9 w9 HP9.out.1.p (by rw [HM9.out.1]; exact HM9.out.2)).mono ?_
              rintro e w10 ⟨rfl, hb10⟩
              have HP10 := Lib.hid (HP9.out.1.grown hb10)
              rw [HM9.out.1]
              clear hb10
              go_wp2_with fail
              refine (pLen19 T B9 K9 s9 w10 HP10.out.p (by rw [HM9.out.1]; exact HM9.out.2)).mono ?_
              rintro e w11 ⟨rfl, hb11⟩
              have HP11 := Lib.hid (HP10.out.grown hb11)
              rw [HM9.out.1]
              clear hb11 HP10
              go_wp2_with fail
              refine (pLen19 T B9 K9 s9 w11 HP11.out.p (by rw [HM9.out.1]; exact HM9.out.2)).mono ?_
              rintro e w12 ⟨rfl, hb12⟩
              have HP12 := Lib.hid (HP11.out.grown hb12)
              rw [HM9.out.1]
              clear hb12 HP11
              go_wp2_with fail
              refine (pEnded19 T B9 K9 s9 w12 HP12.out.p).mono ?_
              rintro e w13 ⟨rfl, hb13⟩
              have HP13 := Lib.hid (And.intro (HP12.out.grown hb13) HP9.out.2)
              rw [HP13.out.2.2]
              clear hb13 HP12 HP9
              go_wp2_with fail
              go_roundg (N - (k + 1))
              case measure => have := HKQ.out; omega
              case rel => exact ⟨k + 1, by omega, by go_num, s9, B9, K9, cs9, gs9, _, _, rfl, rfl, by rw [HP13.out.2.2], Lib.hid ⟨HP13.out.1, HP13.out.2.1⟩⟩
            · have dA : decide ((nn : Int) < (M9 : Int)) = false := decide_eq_false hA
              have dA' : decide (nn < M9) = false := decide_eq_false (by omega)
              clear hA
              clear hcs hln hle hle' hM9 hC9 hD9
              refine (pLen19 T B9 K9 s9 w9 HP9.out.1.p (by rw [HM9.out.1]; exact HM9.out.2)).mono ?_
              rintro e w10 ⟨rfl, hb10⟩
              have HP10 := Lib.hid (HP9.out.1.grown hb10)
              rw [HM9.out.1]
              clear hb10
              go_wp2_with fail
              refine (pLen19 T B9 K9 s9 w10 HP10.out.p (by rw [HM9.out.1]; exact HM9.out.2)).mono ?_
              rintro e w11 ⟨rfl, hb11⟩
              have HP11 := Lib.hid (HP10.out.grown hb11)
              rw [HM9.out.1]
              clear hb11 HP10
              go_wp2_with fail
              refine (pLen19 T B9 K9 s9 w11 HP11.out.p (by rw [HM9.out.1]; exact HM9.out.2)).mono ?_
              rintro e w12 ⟨rfl, hb12⟩
              have HP12 := Lib.hid (HP11.out.grown hb12)
              rw [HM9.out.1]
              clear hb12 HP11
              go_wp2_with fail
              refine (pEnded19 T B9 K9 s9 w12 HP12.out.p).mono ?_
              rintro e w13 ⟨rfl, hb13⟩
              have HP13 := Lib.hid (And.intro (HP12.out.grown hb13) HP9.out.2)
              rw [HP13.out.2.2]
              clear hb13 HP12 HP9
              go_wp2_with fail
              go_roundg (N - (k + 1))
              case measure => have := HKQ.out; omega
              case rel => exact ⟨k + 1, by omega, by go_num, s9, B9, K9, cs9, gs9, _, _, rfl, rfl, by rw [HP13.out.2.2], Lib.hid ⟨HP13.out.1, HP13.out.2.1⟩⟩
    · obtain rfl : k = N := by omega
      clear hlt hk
      have HQ0 := Lib.hid (And.intro HP.out.1 (And.intro HP.out.2 HP.out.2.le))
      clear HP
      go_wp2_with fail
      go_loopg [10, 16] (nn + 2) (fun q s10 s16 wr => ∃ j : Nat, j + q = nn + 2 ∧ s16 = .int .i64 j ∧ ∃ s B K gs gv, s10 = gv ∧ Hid (On19 w1 wr T B K s (.slice ac C kc) gv cs gs ∧ Inv19 nn k s cs gs ∧ (s.l = [] ∨ s.l.length + j ≤ nn + 1)))
      case atStart => exact ⟨0, by omega, rfl, s, B, K, gs, _, rfl, Lib.hid ⟨HQ0.out.1, HQ0.out.2.1, .inr (by have := HQ0.out.2.2; omega)⟩⟩
      case round =>
        obtain ⟨j, hjq, rfl, s, B, K, gs, gv, rfl, HP⟩ := hrel
        have HJQ := Lib.hid hjq
        have hj : j ≤ nn + 2 := by omega
        clear hjq HQ0
        obtain ⟨ag, kg, rfl, _⟩ := owned_shape HP.out.1.og
        obtain ⟨D, hD⟩ : ∃ D, gs.length = D := ⟨_, rfl⟩
        rw [hD] at HP ⊢
        clear hD
        by_cases hjt : j < nn + 2
        · have dJ : decide ((j : Int) ≤ (nn : Int) + 1) = true := decide_eq_true (by omega)
          have dJ' : decide (j ≤ nn + 1) = true := decide_eq_true (by omega)
          go_wp2_with fail
          refine (pPop19 T B K s wr HP.out.1.p (by have := HP.out.2.1.len; have := HP.out.2.1.ck; omega)).mono ?_
          rintro e x3 ⟨B9, K9, pv3, rfl, h1, h2, h3, h4, h5, h6⟩
          obtain ⟨a3, c3, rfl, _⟩ := id h3
          obtain ⟨pb, hpb⟩ : ∃ pb, popB s = pb := ⟨_, rfl⟩
          rw [hpb]
          have HG := Lib.hid (show On19 w1 x3 T B9 K9 (popQ s) (.slice ac C kc) (.slice ag D kg) cs gs ∧ Sl .u8 x3 (.slice a3 (popF s).pay.length c3) (popF s).pay ∧ ∀ g, PayB (popF s) (.slice a3 (popF s).pay.length c3) g → ¬ B9 g ∧ (Value.slice ac C kc).ownBlock ≠ some g ∧ (Value.slice ag D kg).ownBlock ≠ some g from
            ⟨HP.out.1.stepP h1 h2 h5 (fun g hg => (h6 g hg).imp_right .inr), h3, fun g hg => by
              obtain ⟨h7, h8⟩ := h4 g hg
              refine ⟨h8, fun e => ?_, fun e => ?_⟩
              · rcases h7 with h7 | h7
                · exact (HP.out.1.nc g e).2 h7
                · have := (HP.out.1.oc.lt g e).2; omega
              · rcases h7 with h7 | h7
                · exact (HP.out.1.ng g e).2 h7
                · have := (HP.out.1.og.lt g e).2; omega⟩)
          clear h1 h2 h3 h4 h5 h6
          cases pb
          · obtain ⟨hq1, hq2⟩ := popQ_none hpb
            rw [hq1] at HG
            have HQ2 := Lib.hid hq2
            clear hpb hq2
            go_wp2_with fail
            go_roundg (nn + 2 - (j + 1))
            case measure => have := HJQ.out; omega
            case rel => exact ⟨j + 1, by omega, by go_num, s, B9, K9, gs, _, rfl, Lib.hid ⟨HG.out.1.grown ((Below.refl _ _).alloc (Nat.le_refl _) _), HP.out.2.1, .inl HQ2.out⟩⟩
          · have HPb := Lib.hid hpb
            clear hpb
            obtain ⟨D9, hD9⟩ : ∃ D9, (gs ++ [(popF s, Value.slice a3 (popF s).pay.length c3)]).length = D9 := ⟨_, rfl⟩
            have HD9 := Lib.hid hD9
            clear hD9
            have HRow := Lib.hid (show ((x3.alloc (.cells #[.int .i64 (popF s).kind, .int .i64 (popF s).flags, .int .i64 (popF s).stream, .slice a3 (popF s).pay.length c3] 34)).alloc (.cells #[.int .i64 (popF s).kind, .int .i64 (popF s).flags, .int .i64 (popF s).stream, .slice a3 (popF s).pay.length c3] 34)).ownsRow w1.heap.size 34 4 (.slice (some ⟨x3.heap.size + 1, 0, none⟩) 1 1) 1 (flat [(popF s, Value.slice a3 (popF s).pay.length c3)]) from by
              have h1 := one_row19 (w := x3.alloc (.cells #[.int .i64 (popF s).kind, .int .i64 (popF s).flags, .int .i64 (popF s).stream, .slice a3 (popF s).pay.length c3] 34)) (base := w1.heap.size) (popF s) (.slice a3 (popF s).pay.length c3) (by have := HG.out.1.b.size; simp; omega)
              rw [show (x3.alloc (.cells #[.int .i64 (popF s).kind, .int .i64 (popF s).flags, .int .i64 (popF s).stream, .slice a3 (popF s).pay.length c3] 34)).heap.size = x3.heap.size + 1 from by simp] at h1
              exact h1)
            go_wp2_with (at_builtin; refine app_frames_at rfl (.tmp 152) (.tmp 154) 42 rfl w1.heap.size w1.heap.size 34 Try.underlying42 Try.infoFr19 _ gs rfl ((HG.out.1.og.alloc _).alloc _) _ [(popF s, Value.slice a3 (popF s).pay.length c3)] rfl HRow.out (fun p hp => by rw [List.mem_singleton] at hp; subst hp; exact ⟨_, _, _, rfl⟩) (by have := HP.out.2.1.ck; have := HP.out.2.1.len; simp; omega) (by have := HG.out.1.b.size; simp; omega) ?_; intro v9 w9 own9 hb9 hg9 hat9; obtain ⟨a9, k9, e9, _⟩ := owned_shape own9; rw [HD9.out] at e9; subst e9; have HGA := Lib.hid (show On19 w1 w9 T B9 K9 (popQ s) (.slice ac C kc) (.slice a9 D9 k9) cs (gs ++ [(popF s, Value.slice a3 (popF s).pay.length c3)]) from (HG.out.1.grown (((Below.refl _ _).alloc (Nat.le_refl _) _).alloc (by simp) _)).addG hg9 own9 hat9 (HG.out.2.1.below (((Below.refl _ _).alloc (Nat.le_refl _) _).alloc (by simp) _)) HG.out.2.2); clear own9 hb9 hg9 hat9)
            have HP9 := Lib.hid (show On19 w1 w9 T B9 K9 (popQ s) (.slice ac C kc) (.slice a9 D9 k9) cs (gs ++ [(popF s, Value.slice a3 (popF s).pay.length c3)]) ∧ Inv19 nn k (popQ s) cs (gs ++ [(popF s, Value.slice a3 (popF s).pay.length c3)]) ∧ ((popQ s).l = [] ∨ (popQ s).l.length + (j + 1) ≤ nn + 1) from ⟨HGA.out, HP.out.2.1.pop HPb.out, by
              have h1 := popQ_len HPb.out
              rcases HP.out.2.2 with h2 | h2
              · rw [h2] at h1; simp at h1
              · exact .inr (by omega)⟩)
            clear HGA HG HP
            go_roundg (nn + 2 - (j + 1))
            case measure => have := HJQ.out; omega
            case rel => exact ⟨j + 1, by omega, by go_num, _, B9, K9, _, _, rfl, HP9⟩
        · have dJ : decide ((j : Int) ≤ (nn : Int) + 1) = false := decide_eq_false (by omega)
          have dJ' : decide (j ≤ nn + 1) = false := decide_eq_false (by omega)
          have HEQ := Lib.hid (show gs.map (·.1) = cs.map (·.1) from by
            have h1 := HP.out.2.1.e
            rcases HP.out.2.2 with h2 | h2
            · rw [h2, List.append_nil] at h1; exact h1.symm
            · exfalso; omega)
          clear hjt hj
          go_wp2_with fail
          refine (refList_any _ _ gs cs wr (SlF.of_own HP.out.1.og (fun p hp => (HP.out.1.pg p hp).1)) (SlF.of_own HP.out.1.oc (fun p hp => (HP.out.1.pc p hp).later19 (HP.out.1.pc p hp) HP.out.1.b))).mono ?_
          rintro e w8 ⟨rfl, hb8⟩
          rw [decide_eq_true HEQ.out]
          have HB8 := Lib.hid (HP.out.1.b.trans (hb8.mono HP.out.1.b.size))
          clear hb8 HP
          go_wp2_with fail
          refine (alive19 _).mono ?_
          rintro e w9 ⟨rfl, hb9⟩
          have HB9 := Lib.hid (HB8.out.trans (hb9.mono HB8.out.size))
          clear hb9
          go_wp2_with fail
          go_ret
          exact ⟨rfl, HB9.out⟩
end Go.Proofs.Ytiappeagdnkedaa
