
/-
  Layer 13: the law IntakeChunks.
-/
import Derived.Test.YtappehjcbjplaaaLaw13d
import Derived.Test.YtappehjcbjplaaaQuiet
import Derived.Test.YtappehjcbjplaaaRegion
import Derived.Shelf.Abstract
namespace Go.Proofs.Ytappehjcbjplaaa
set_option maxRecDepth 20000
open Go.RowKit

theorem quiet_skip {P : Program} {ops : Array Oper} {C : World → Prop} {Q : Act → Prop} {o : Oper} {rest : List Oper} {a : Act} (hw : Region.wanted o (yielded ops a.tmps) = false) (hr : wpQuiet P ops C Q rest (a.put o.dst undef)) : wpQuiet P ops C Q (o :: rest) a :=
  wpQuiet_step fun K hK => by rw [hw]; exact hK _ hr
theorem wpAny_onlyW {P : Program} {md : Region.Mode} {ops : Array Oper} {Q : Exit → Act → World → Prop} (i : Nat) (d : Tmp) {fuel : Nat} {listed : Array Bool} {a : Act} {w : World}
    (hr : Region.ready md ops listed = [i]) (hd : (ops[i]?).map (fun o => o.dst) = some (some d)) (hw : ∀ o, ops[i]? = some o → Region.wanted o (yielded ops a.tmps) = true) (R : Value → World → Prop) (h : ∀ o, ops[i]? = some o → gives P o a.eval w R)
    (hK : ∀ v w', R v w' → wpAny P md ops Q fuel (listed.setIfInBounds i true) (a.put (some d) v) w') : wpAny P md ops Q (fuel + 1) listed a w := by
  refine wpAny_all hr (by simp) fun j hj => ?_
  simp only [List.mem_singleton] at hj
  subst hj
  cases ho : ops[j]? with
  | none => rw [ho] at hd; cases hd
  | some o =>
    rw [ho] at hd
    simp only [Option.map_some, Option.some.injEq] at hd
    unfold wpOp
    simp only [ho, hw o ho, if_true]
    exact .inl (wp_of_gives (h o ho) (by rw [hd]; exact hK))
theorem gives_call13 {P : Program} {o : Oper} {ρ : Operand → Value} {w : World} {R : Value → World → Prop} (f : FuncId) (xs : Array Operand) (ts : Array TypeId) (ho : o.op = .call { callee := .value (.func f), args := xs, argTypes := ts })
    (hf : ρ (.func f) = .func (.func f) #[] #[]) (vals : List Value) (hx : xs.toList.map ρ = vals) (he : ∀ args w, (callFunc f args).run P w = .ok (.enter f args) w)
    (h : Calls P f vals.toArray w fun e w'' => ∃ v, e = .returned v ∧ R v w'') : gives P o ρ w R := by
  have hx' : xs.map ρ = vals.toArray := by rw [← hx, ← Array.toList_map, Array.toArray_toList]
  rw [← hx'] at h
  unfold gives execOp
  simp [ho, resolve, invoke, go_sem, he, hf]
  exact h
/-- two intakes that have got the same bytes, and have told all, are alike -/
theorem CkInv.alike {most : Int} {all : List Int} {t1 t2 : List Fr} {s1 s2 : Ik} (h1 : CkInv most all t1 s1) (h2 : CkInv most all t2 s2) (d1 : nextIE s1 ≠ 0) (d2 : nextIE s2 ≠ 0) (f1 : nextIS s1 = s1) (f2 : nextIS s2 = s2) :
    t1 = t2 ∧ nextIE s1 = nextIE s2 ∧ s1.got.length = s2.got.length ∧ s1.begun = s2.begun := by
  obtain ⟨a1, b1⟩ := h1.done d1 f1
  obtain ⟨a2, b2⟩ := h2.done d2 f2
  by_cases hb : 24 ≤ all.length ∧ wrongL all = false
  · obtain ⟨x1, x2, x3, x4⟩ := a1 hb
    obtain ⟨y1, y2, y3, y4⟩ := a2 hb
    exact ⟨x2.trans y2.symm, x3.trans y3.symm, x4.trans y4.symm, x1.trans y1.symm⟩
  · obtain ⟨x1, x2, x3, x4⟩ := b1 hb
    obtain ⟨y1, y2, y3, y4⟩ := b2 hb
    exact ⟨x2.trans y2.symm, x3.trans y3.symm, x4.trans y4.symm, x1.trans y1.symm⟩
theorem ChW.new {w w1 w2 : World} {Ta Tb : Nat} {Oa Ob : Option Nat} {s r : Ik} (hb1 : Below w.heap.size w w1) (hb2 : Below w1.heap.size w1 w2) (hTa : w.heap.size ≤ Ta) (hOa : ∀ g, Oa = some g → w.heap.size ≤ g) (ha : InAt w1 Ta Oa 0 s)
    (hTb : w1.heap.size ≤ Tb) (hOb : ∀ g, Ob = some g → w1.heap.size ≤ g) (hb : InAt w2 Tb Ob 0 r) : ChW w w2 Ta Oa 0 s Tb Ob 0 r (.slice none 0 0) [] (.slice none 0 0) [] (.slice none 0 0) [] := by
  have hs1 := hb1.size
  have hs2 := hb2.size
  have hla := ha.lt
  have hlb := hb.lt
  have h0 : Sep w.heap.size (fun _ _ => False) w := ⟨fun _ _ h => h.elim, fun _ _ h => h.elim, fun _ _ _ _ h => h.elim, Nat.le_refl _⟩
  refine ⟨h0.many (Nat.le_trans hs1 hs2) (fun i g hg => .inr ?_) (fun i g hg => ?_) (fun i j g hij _ h1 h2 => ?_), ha.turn (Turn.of_below hb2 (S := fun _ => False)) id (fun _ _ => id), hb, World.ownsRow_nil _ _ _ _, fun _ h => (by cases h), World.ownsRow_nil _ _ _ _, World.ownsRow_nil _ _ _ _, fun p hp => (by cases hp), hb1.trans (hb2.mono hs1)⟩
  · match i, hg with
    | 0, .inl e => omega
    | 0, .inr e => exact hOa g e
    | 1, .inl e => omega
    | 1, .inr e => have := hOb g e; omega
    | 2, hg => cases hg
    | 3, hg => cases hg
    | 4, ⟨p, hp, _⟩ => cases hp
    | 5, hg => cases hg
  · match i, hg with
    | 0, .inl e => have := hla.1; omega
    | 0, .inr e => have := hla.2 g e; omega
    | 1, .inl e => have := hlb.1; omega
    | 1, .inr e => exact hlb.2 g e
    | 2, hg => cases hg
    | 3, hg => cases hg
    | 4, ⟨p, hp, _⟩ => cases hp
    | 5, hg => cases hg
  · match j, h2 with
    | 1, h2 =>
      obtain rfl : i = 0 := by omega
      have g1 : g < w1.heap.size := by
        rcases h1 with e | e
        · have := hla.1; omega
        · exact hla.2 g e
      rcases h2 with e | e
      · omega
      · have := hOb g e; omega
    | 2, h2 => cases h2
    | 3, h2 => cases h2
    | 4, ⟨p, hp, _⟩ => cases hp
    | 5, h2 => cases h2
set_option maxHeartbeats 8000000 in
theorem chunks13_any (v : Value) (cs : List Ck) (w : World) (h : SlK w v cs) :
    Calls Try.prog 4 #[v] w fun e w' => e = .returned (.bool true) ∧ Below w.heap.size w w' := by
  obtain ⟨a, c, rfl, hc1, hc2⟩ := h.1.shape
  unfold maxLen at hc2
  obtain ⟨N, hN⟩ : ∃ N, cs.length = N := ⟨_, rfl⟩
  rw [hN] at h hc1 ⊢
  have HN := Lib.hid hN
  have HS := Lib.hid h
  clear hN h
  by_cases h40 : 40 < N
  · have d0 : decide ((40 : Int) < (N : Int)) = true := decide_eq_true (by omega)
    clear h40
    go_enter Try.func4, Try.ntmps4
    go_wp2_with fail
    refine (alive13 _).mono ?_
    rintro e w1 ⟨rfl, hb1⟩
    have HB1 := Lib.hid hb1
    clear hb1
    go_wp2_with fail
    go_ret
    exact ⟨rfl, HB1.out⟩
  have d0 : decide ((40 : Int) < (N : Int)) = false := decide_eq_false (by omega)
  go_enter Try.func4, Try.ntmps4
  go_wp2_with fail
  refine (pNew_yes 16384 _ (by decide) (by decide)).mono ?_
  rintro e w1 ⟨Ta, Oa, rfl, hTa, hOa, ha, hb1⟩
  have HA := Lib.hid (And.intro hTa (And.intro hOa (And.intro ha hb1)))
  clear hTa hOa ha hb1
  go_wp2_with fail
  refine (pNew_yes 16384 _ (by decide) (by decide)).mono ?_
  rintro e w2 ⟨Tb, Ob, rfl, hTb, hOb, hb, hb2⟩
  have HW := Lib.hid (show ChW w w2 Ta Oa 0 (Ik.new 16384) Tb Ob 0 (Ik.new 16384) (.slice none 0 0) [] (.slice none 0 0) [] (.slice none 0 0) [] from ChW.new HA.out.2.2.2 hb2 HA.out.1 HA.out.2.1 HA.out.2.2.1 hTb hOb hb)
  clear hTb hOb hb hb2 HA
  go_wp2_with fail
  go_loopg [7, 8, 9, 10, 11] N (fun q s7 s8 s9 s10 s11 wr => ∃ k : Nat, k + q = N ∧ s9 = .int .i64 k ∧ ∃ av tv all ps Oa n s, s7 = av ∧ s8 = tv ∧ Hid (ChW w wr Ta Oa n s Tb Ob 0 (Ik.new 16384) av all tv ps (.slice none 0 0) [] ∧ CkInv 16384 all (ps.map (·.1)) s ∧ n ≤ k * 2000 ∧ all.length ≤ k * 2000 ∧ ps.length ≤ k * 8889))
  case atStart => exact ⟨0, by omega, rfl, _, _, [], [], Oa, 0, _, rfl, rfl, Lib.hid ⟨HW.out, CkInv.new _, by omega, by simp, by simp⟩⟩
  case round =>
    obtain ⟨k, hkq, rfl, av, tv, all, ps, Oa, n, s, rfl, rfl, HP⟩ := hrel
    have HKQ := Lib.hid hkq
    have hk : k ≤ N := by omega
    clear hkq HW
    obtain ⟨aa, ca, rfl, _⟩ := owned_shape HP.out.1.all_
    obtain ⟨at_, ct, rfl, _⟩ := owned_shape HP.out.1.told
    have hnb := HP.out.2.2.1
    by_cases hlt : k < N
    · obtain ⟨x, hx⟩ : ∃ x, cs[k]? = some x := ⟨cs[k]'(by rw [HN.out]; exact hlt), List.getElem?_eq_getElem (by rw [HN.out]; exact hlt)⟩
      have hmem := List.mem_of_getElem? hx
      obtain ⟨hsx, hn0, hn1⟩ := HS.out.2 x hmem
      have HX := Lib.hid (And.intro hsx (And.intro hn0 hn1))
      obtain ⟨b, off, rfl, hbl, hcell⟩ := HS.out.1.at_ (i := k) (by rw [HN.out]; exact hlt)
      have HC := Lib.hid (show w.cell? ⟨b, off + k * 2, none⟩ = some x.bv ∧ w.cell? ⟨b, off + k * 2 + 1, none⟩ = some (.int .u8 x.n) ∧ b < w.heap.size from ⟨hcell x hx 0 (by omega), hcell x hx 1 (by omega), hbl⟩)
      have cellB := fun (W' : World) (hB : Below w.heap.size w W') => (show W'.cell? ⟨b, off + k * 2, none⟩ = some x.bv ∧ W'.cell? ⟨b, off + k * 2 + 1, none⟩ = some (.int .u8 x.n) ∧ b < W'.heap.size from ⟨(hB.cell (p := ⟨b, off + k * 2, none⟩) hbl).trans HC.out.1, (hB.cell (p := ⟨b, off + k * 2 + 1, none⟩) hbl).trans HC.out.2.1, Nat.lt_of_lt_of_le hbl hB.size⟩)
      have HCB := Lib.hid cellB
      obtain ⟨ab, cb, hbv, _⟩ := id hsx
      have HBV := Lib.hid hbv
      clear cellB hcell hbl hmem hx hsx hbv
      obtain ⟨c0, c1, cz⟩ := HCB.out wr HP.out.1.bel
      rw [HBV.out] at c0
      by_cases h2000 : 2000 < x.b.length
      · have d3 : decide ((2000 : Int) < (x.b.length : Int)) = true := decide_eq_true (by omega)
        clear h2000 hn0 hn1
        go_wp2_with fail
        refine (alive13 _).mono ?_
        rintro e w3 ⟨rfl, hb3⟩
        have HB3 := Lib.hid (HP.out.1.bel.trans (hb3.mono HP.out.1.bel.size))
        clear hb3
        go_wp2_with fail
        go_ret
        exact ⟨rfl, HB3.out⟩
      · have d3 : decide ((2000 : Int) < (x.b.length : Int)) = false := decide_eq_false (by omega)
        have HL := Lib.hid (show x.b.length ≤ 2000 by omega)
        have hown := HP.out.1.all_
        have HSX := Lib.hid (show Sl .u8 wr (.slice ab x.b.length cb) x.b by rw [← HBV.out]; exact HX.out.1.below HP.out.1.bel)
        have hal : all.length ≤ 80000 := by have := HP.out.2.2.2.1; omega
        clear h2000
        go_wp2_with (at_builtin; refine app_ints_at rfl (.tmp 62) (.tmp 67) 30 rfl w.heap.size 5 .u8 1 Try.underlying30 Try.info5' _ _ all rfl hown _ _ rfl HSX.out (by have := HL.out; omega) (by have := HL.out; unfold maxLen; omega) HP.out.1.bel.size ?_; intro v3 w3 own3 hc3 hg3 hat3; have HP3 := Lib.hid (HP.out.1.stepAll hg3 (show w3.ownsRow w.heap.size 5 1 v3 (all ++ x.b).length ((all ++ x.b).map (Value.int .u8)) by rw [List.length_append]; exact own3) (Fit.append' HP.out.1.fit HSX.out.fit) hat3); obtain ⟨a3, k3, rfl, _⟩ := owned_shape own3; obtain ⟨c0, c1, cz⟩ := HCB.out w3 HP3.out.bel; rw [HBV.out] at c0)
        clear hown HSX
        refine (pFeed_any Ta n Oa s _ x.b w3 HP3.out.a (by rw [← HBV.out]; exact HX.out.1.below HP3.out.bel) (by have := HL.out; omega)).mono ?_
        rintro e w4 ⟨rfl, O4, ha4, ht4, ho4⟩
        have HP4 := Lib.hid (show ChW w w4 Ta O4 (n + x.b.length) (feedI s x.b) Tb Ob 0 (Ik.new 16384) (.slice a3 (all.length + x.b.length) k3) (all ++ x.b) (.slice at_ ps.length ct) ps (.slice none 0 0) [] ∧ CkInv 16384 (all ++ x.b) (ps.map (·.1)) (feedI s x.b) ∧ n + x.b.length ≤ (k + 1) * 2000 ∧ (all ++ x.b).length ≤ (k + 1) * 2000 ∧ ps.length ≤ k * 8889 from
          ⟨HP3.out.stepA ht4 ha4 (ho4.elim (fun e g hg => .inl (by rw [← e]; exact hg)) (fun f g hg => .inr (f g hg))), HP.out.2.1.feed HX.out.1.fit, by have := HL.out; omega, by rw [List.length_append]; have := HL.out; have := HP.out.2.2.2.1; omega, HP.out.2.2.2.2⟩)
        clear ha4 ht4 ho4 c0 c1 cz
        obtain ⟨c0, c1, cz⟩ := HCB.out w4 HP4.out.1.bel
        obtain ⟨pb, hpb⟩ : ∃ pb, (x.n % 2 == 1) = pb := ⟨_, rfl⟩
        cases pb
        · go_wp2_with fail
          go_roundg (N - (k + 1))
          case measure => have := HKQ.out; omega
          case rel => exact ⟨k + 1, by omega, by go_num, _, _, _, ps, O4, _, _, rfl, rfl, Lib.hid ⟨HP4.out.1, HP4.out.2.1, HP4.out.2.2.1, HP4.out.2.2.2.1, by have := HP4.out.2.2.2.2; omega⟩⟩
        · go_wp2_with fail
          have hfl := HP4.out.1.a.fit.2
          refine (frames13_any Ta _ O4 _ w4 HP4.out.1.a (by have := HL.out; omega) (by have := HL.out; omega)).mono ?_
          rintro e w5 ⟨v5, ps5, O5, rfl, hm5, hr5, ha5, ht5, ho5, hn5, hl5⟩
          have HP5 := Lib.hid (show ChW w w5 Ta O5 (n + x.b.length) (framesI 8889 (feedI s x.b)).2.2 Tb Ob 0 (Ik.new 16384) (.slice a3 (all.length + x.b.length) k3) (all ++ x.b) (.slice at_ ps.length ct) ps v5 ps5 from HP4.out.1.framesA ht5 ha5 ho5 hr5 hn5)
          have HQ5 := Lib.hid (show CkInv 16384 (all ++ x.b) ((ps ++ ps5).map (·.1)) (framesI 8889 (feedI s x.b)).2.2 from by
            have := (HP4.out.2.1.frames (n := 8889) (by have := HL.out; omega)).1
            rw [List.map_append, hm5]; exact this)
          obtain ⟨a5, k5, rfl, _⟩ := owned_shape HP5.out.x
          have hpsb := HP4.out.2.2.2.2
          generalize (framesI 8889 (feedI s x.b)).2.2 = s5 at HP5 HQ5
          generalize (framesI 8889 (feedI s x.b)).2.1 = e5
          clear hm5 hr5 ha5 ht5 ho5 hn5 c0 c1 cz hfl
          have hown := HP5.out.told
          have hsrc := HP5.out.x
          have hshp : ∀ p ∈ ps5, ∃ b n c, p.2 = .slice b n c := fun p hp => by
            obtain ⟨a, c, e⟩ := (HP5.out.pay p (List.mem_append_right _ hp)).2
            exact ⟨a, _, c, e⟩
          go_wp2_with (at_builtin; refine app_frames_at rfl (.tmp 88) (.tmp 89) 42 rfl w.heap.size w.heap.size 36 Try.underlying42 Try.infoF _ ps rfl hown _ ps5 rfl hsrc hshp (by omega) HP5.out.bel.size ?_; intro v6 w6 own6 hc6 hg6 hat6)
          have HP6 := Lib.hid (HP5.out.stepTold hg6 own6 hat6)
          go_roundg (N - (k + 1))
          case measure => have := HKQ.out; omega
          case rel => exact ⟨k + 1, by omega, by go_num, _, v6, _, ps ++ ps5, O5, _, s5, rfl, rfl, Lib.hid ⟨HP6.out, HQ5.out, HP4.out.2.2.1, HP4.out.2.2.2.1, by rw [List.length_append]; omega⟩⟩
    · obtain rfl : k = N := by omega
      have hal : all.length ≤ 80000 := by have := HP.out.2.2.2.1; omega
      have hfit := HP.out.1.fit
      clear hlt hk
      go_wp2_with fail
      refine (pFeed_any Tb 0 Ob _ _ all _ HP.out.1.b (Sl.of_own HP.out.1.all_ hfit (by unfold maxLen; omega)) (by omega)).mono ?_
      rintro e w4 ⟨rfl, O4, hb4, ht4, ho4⟩
      have HP4 := Lib.hid (show ChW w w4 Ta Oa n s Tb O4 (0 + all.length) (feedI (Ik.new 16384) all) (.slice aa all.length ca) all (.slice at_ ps.length ct) ps (.slice none 0 0) [] ∧ CkInv 16384 all [] (feedI (Ik.new 16384) all) from
        ⟨HP.out.1.stepB ht4 hb4 (ho4.elim (fun e g hg => .inl (by rw [← e]; exact hg)) (fun f g hg => .inr (f g hg))), (CkInv.new 16384).feed hfit⟩)
      clear hb4 ht4 ho4
      generalize feedI (Ik.new 16384) all = r4 at HP4
      have hfl := HP4.out.1.a.fit.2
      have hfr := HP4.out.1.b.fit.2
      go_wp2_with fail
      refine (frames13_any Ta _ Oa s w4 HP4.out.1.a (by omega) (by omega)).mono ?_
      rintro e w5 ⟨v5, ps5, O5, rfl, hm5, hr5, ha5, ht5, ho5, hn5, hl5⟩
      have HP5 := Lib.hid (HP4.out.1.framesA ht5 ha5 ho5 hr5 hn5)
      have HQ5 := Lib.hid (show CkInv 16384 all ((ps ++ ps5).map (·.1)) (framesI 8889 s).2.2 ∧ (framesI 8889 s).2.1 = nextIE (framesI 8889 s).2.2 ∧ (framesI 8889 s).2.1 ≠ 0 ∧ nextIS (framesI 8889 s).2.2 = (framesI 8889 s).2.2 from by
        have := HP.out.2.1.frames (n := 8889) (by omega)
        rw [List.map_append, hm5]; exact this)
      obtain ⟨a5, k5, rfl, _⟩ := owned_shape HP5.out.x
      have hpsb := HP.out.2.2.2.2
      generalize (framesI 8889 s).2.2 = s5 at HP5 HQ5
      generalize (framesI 8889 s).2.1 = e5 at HQ5 ⊢
      clear hm5 hr5 ha5 ht5 ho5 hn5
      have hown := HP5.out.told
      have hsrc := HP5.out.x
      have hshp : ∀ p ∈ ps5, ∃ b n c, p.2 = .slice b n c := fun p hp => by
        obtain ⟨a, c, e⟩ := (HP5.out.pay p (List.mem_append_right _ hp)).2
        exact ⟨a, _, c, e⟩
      go_wp2_with (at_builtin; refine app_frames_at rfl (.tmp 99) (.tmp 100) 42 rfl w.heap.size w.heap.size 36 Try.underlying42 Try.infoF _ ps rfl hown _ ps5 rfl hsrc hshp (by omega) HP5.out.bel.size ?_; intro v6 w6 own6 hc6 hg6 hat6)
      have HP6 := Lib.hid (HP5.out.stepTold hg6 own6 hat6)
      clear own6 hc6 hg6 hat6 hown hsrc hshp
      obtain ⟨qs, hqs⟩ : ∃ qs, ps ++ ps5 = qs := ⟨_, rfl⟩
      rw [hqs] at HP6 HQ5
      have hqb : qs.length ≤ 1000000 := by rw [← hqs, List.length_append]; omega
      clear hqs HP5
      refine (frames13_any Tb _ O4 r4 w6 HP6.out.b (by omega) (by omega)).mono ?_
      rintro e w7 ⟨v7, ps7, O7, rfl, hm7, hr7, hb7, ht7, ho7, hn7, hl7⟩
      have HP7 := Lib.hid (HP6.out.framesB ht7 hb7 ho7 hr7 hn7)
      have HQ7 := Lib.hid (show CkInv 16384 all (ps7.map (·.1)) (framesI 8889 r4).2.2 ∧ (framesI 8889 r4).2.1 = nextIE (framesI 8889 r4).2.2 ∧ (framesI 8889 r4).2.1 ≠ 0 ∧ nextIS (framesI 8889 r4).2.2 = (framesI 8889 r4).2.2 from by
        have := HP4.out.2.frames (n := 8889) (by omega)
        rw [hm7]; exact this)
      obtain ⟨a7, k7, rfl, _⟩ := owned_shape HP7.out.x
      generalize (framesI 8889 r4).2.2 = r7 at HP7 HQ7
      generalize (framesI 8889 r4).2.1 = e7 at HQ7 ⊢
      clear hm7 hr7 hb7 ht7 ho7 hn7
      have HK := Lib.hid (CkInv.alike HQ5.out.1 HQ7.out.1 (by rw [← HQ5.out.2.1]; exact HQ5.out.2.2.1) (by rw [← HQ7.out.2.1]; exact HQ7.out.2.2.1) HQ5.out.2.2.2 HQ7.out.2.2.2)
      obtain rfl : e7 = e5 := by rw [HQ5.out.2.1, HQ7.out.2.1]; exact HK.out.2.1.symm
      obtain ⟨av6, cv6, rfl, _⟩ := owned_shape HP7.out.told
      go_wp2_with fail
      refine (refList_any _ _ qs ps7 w7 (SlF.of_own HP7.out.told (fun p hp => (HP7.out.pay p (List.mem_append_left _ hp)).1)) (SlF.of_own HP7.out.x (fun p hp => (HP7.out.pay p (List.mem_append_right _ hp)).1))).mono ?_
      rintro e w8 ⟨rfl, hb8⟩
      rw [decide_eq_true HK.out.1]
      have HP8 := Lib.hid (HP7.out.grown hb8)
      have hee : (e7 != e7) = false := by simp
      clear hb8
      go_wp2_with fail
      refine (pLen_any Ta _ O5 s5 w8 HP8.out.a).mono ?_
      rintro e w9 ⟨rfl, hb9⟩
      have HP9 := Lib.hid (HP8.out.grown hb9)
      clear hb9
      go_wp2_with fail
      refine (pLen_any Tb _ O7 r7 w9 HP9.out.b).mono ?_
      rintro e w10 ⟨rfl, hb10⟩
      rw [HK.out.2.2.1]
      have hle : ((r7.got.length : Int) != (r7.got.length : Int)) = false := by simp
      have HP10 := Lib.hid (HP9.out.grown hb10)
      clear hb10 HP9 HP8 HP7 HP6 HP4
      go_wp2_with fail
      have hnb1 : all.length ≤ 1000000 := by omega
      have HAll := Lib.hid (show Sl .u8 w10 (.slice aa all.length ca) all from Sl.of_own HP10.out.all_ hfit (by unfold maxLen; omega))
      by_cases h24 : 24 ≤ all.length
      · have d24 : decide ((24 : Int) ≤ (all.length : Int)) = true := decide_eq_true (by omega)
        obtain ⟨vt, hrt, hvt⟩ := HAll.out.upto Try.sliceR Try.sizeR 24 (by omega) (by omega)
        obtain ⟨vd, hrd, hvd⟩ := HAll.out.from_ Try.sliceR Try.sizeR 24 (by omega) (by omega)
        refine wp_region_any (by kernel_rfl) ?_
        change wpAny _ _ _ _ _ _ _ (World.drew _)
        have HP11 := Lib.hid (HP10.out.grown (Below.refl _ w10).drew)
        have HT11 := Lib.hid (show Sl .u8 w10.drew vt (all.take 24) ∧ Sl .u8 w10.drew vd (all.drop 24) from ⟨hvt.drew, hvd.drew⟩)
        generalize w10.drew = w11 at HP11 HT11 ⊢
        clear HP10 HAll hvt hvd
        refine wpAny_early 0 124 (.slice aa all.length ca) (by kernel_rfl) (by kernel_rfl) (by kernel_rfl) (fun _ _ _ h => h) rfl (fun o ho => by obtain rfl := Option.some.inj ho; exact .inl ⟨rfl, fun W => rfl⟩) ?_
        simp only [Act.put, List.setIfInBounds_toArray, List.set_cons_zero, List.set_cons_succ]
        refine wpAny_early 1 125 (.int .i64 (all.length : Nat)) (by kernel_rfl) (by kernel_rfl) (by kernel_rfl) (fun _ _ _ h => h) rfl (fun o ho => by obtain rfl := Option.some.inj ho; exact .inl ⟨rfl, fun W => by simp [execOp, go_sem]⟩) ?_
        simp only [Act.put, List.setIfInBounds_toArray, List.set_cons_zero, List.set_cons_succ]
        refine wpAny_early 2 126 (.bool true) (by kernel_rfl) (by kernel_rfl) (by kernel_rfl) (fun _ _ _ h => h) rfl (fun o ho => by obtain rfl := Option.some.inj ho; exact .inl ⟨rfl, fun W => by simp [execOp, go_sem]; omega⟩) ?_
        simp only [Act.put, List.setIfInBounds_toArray, List.set_cons_zero, List.set_cons_succ]
        refine wpAny_early 3 127 (.bool true) (by kernel_rfl) (by kernel_rfl) (by kernel_rfl) (fun _ _ _ h => h) rfl (fun o ho => by obtain rfl := Option.some.inj ho; exact .inl ⟨rfl, fun W => rfl⟩) ?_
        simp only [Act.put, List.setIfInBounds_toArray, List.set_cons_zero, List.set_cons_succ]
        refine wpAny_early 4 128 (.slice aa all.length ca) (by kernel_rfl) (by kernel_rfl) (by kernel_rfl) (fun _ _ _ h => h) rfl (fun o ho => by obtain rfl := Option.some.inj ho; exact .inl ⟨rfl, fun W => rfl⟩) ?_
        simp only [Act.put, List.setIfInBounds_toArray, List.set_cons_zero, List.set_cons_succ]
        refine wpAny_early 5 129 (vt) (by kernel_rfl) (by kernel_rfl) (by kernel_rfl) (fun _ _ _ h => h) rfl (fun o ho => by obtain rfl := Option.some.inj ho; exact .inl ⟨rfl, fun W => by simp [execOp, go_sem, hrt]⟩) ?_
        simp only [Act.put, List.setIfInBounds_toArray, List.set_cons_zero, List.set_cons_succ]
        refine wpAny_onlyW 6 130 (by kernel_rfl) rfl (fun o ho => by obtain rfl := Option.some.inj ho; rfl) (fun v W' => Sl .u8 W' v preL ∧ Below w11.heap.size w11 W') (fun o ho => ?_) ?_
        · obtain rfl := Option.some.inj ho
          refine gives_call13 20 _ _ rfl rfl [] rfl (enters_of Try.func20 (by kernel_rfl) rfl) ?_
          exact (pPreface_any w11).mono fun e w' ⟨v, he, hs, hb, _⟩ => ⟨v, he, hs, hb⟩
        rintro pv w12 ⟨hpv, hb12⟩
        simp only [Act.put, List.setIfInBounds_toArray, List.set_cons_zero, List.set_cons_succ]
        have HP12 := Lib.hid (HP11.out.grown hb12)
        have HT12 := Lib.hid (show Sl .u8 w12 vt (all.take 24) ∧ Sl .u8 w12 vd (all.drop 24) ∧ Sl .u8 w12 pv preL from ⟨HT11.out.1.below hb12, HT11.out.2.below hb12, hpv⟩)
        clear HP11 HT11 hpv hb12
        refine wpAny_onlyW 7 131 (by kernel_rfl) rfl (fun o ho => by obtain rfl := Option.some.inj ho; rfl) (fun v W' => v = .bool (decide (all.take 24 = preL)) ∧ Below w12.heap.size w12 W') (fun o ho => ?_) ?_
        · obtain rfl := Option.some.inj ho
          refine gives_call13 19 _ _ rfl rfl [vt, pv] rfl (enters_of Try.func19 (by kernel_rfl) rfl) ?_
          exact (same_any _ _ _ _ w12 HT12.out.1 HT12.out.2.2).mono fun e w' ⟨he, n, hn⟩ => ⟨_, he, rfl, by rw [hn]; exact below_drewN (Below.refl _ _) n⟩
        rintro bv w13 ⟨rfl, hb13⟩
        simp only [Act.put, List.setIfInBounds_toArray, List.set_cons_zero, List.set_cons_succ]
        have HP13 := Lib.hid (HP12.out.grown hb13)
        have HT13 := Lib.hid (HT12.out.2.1.below hb13)
        clear HP12 HT12 hb13
        obtain ⟨bg, hbg⟩ : ∃ bg, decide (all.take 24 = preL) = bg := ⟨_, rfl⟩
        rw [hbg]
        refine wpAny_early 8 132 (.bool bg) (by kernel_rfl) (by kernel_rfl) (by kernel_rfl) (fun _ _ _ h => h) rfl (fun o ho => by obtain rfl := Option.some.inj ho; exact .inl ⟨rfl, fun W => by simp [execOp, go_sem]⟩) ?_
        simp only [Act.put, List.setIfInBounds_toArray, List.set_cons_zero, List.set_cons_succ]
        refine wpAny_early 9 17 (.bool bg) (by kernel_rfl) (by kernel_rfl) (by kernel_rfl) (fun _ _ _ h => h) rfl (fun o ho => by obtain rfl := Option.some.inj ho; exact .inl ⟨rfl, fun W => rfl⟩) ?_
        simp only [Act.put, List.setIfInBounds_toArray, List.set_cons_zero, List.set_cons_succ]
        refine wpAny_done (by kernel_rfl) ?_ _
        have HWr := Lib.hid (show wrongL all = !bg from by rw [wrongL_head h24, hbg])
        have H24 := Lib.hid h24
        clear d24 h24 hbg hrt
        cases bg
        · have HD := Lib.hid ((CkInv.done HQ5.out.1 (by rw [← HQ5.out.2.1]; exact HQ5.out.2.2.1) HQ5.out.2.2.2).2 (fun h => by rw [HWr.out] at h; cases h.2))
          have hq0 : ((qs.length : Int) == 0) = true := by have := congrArg List.length HD.out.2.1; simpa using this
          go_wp2_with fail
          refine (alive13 _).mono ?_
          rintro e w16 ⟨rfl, hbw16⟩
          have HP13a := Lib.hid (HP13.out.grown hbw16)
          clear hbw16
          go_wp2_with fail
          refine (pBegun_any Ta _ O5 s5 w16 HP13a.out.a).mono ?_
          rintro e w16b ⟨rfl, hbw16⟩
          rw [HD.out.1]
          have HE := Lib.hid (HP13a.out.bel.trans (hbw16.mono HP13a.out.bel.size))
          clear hbw16
          go_wp2_with fail
          go_ret
          exact ⟨rfl, HE.out⟩
        · have HD := Lib.hid ((CkInv.done HQ5.out.1 (by rw [← HQ5.out.2.1]; exact HQ5.out.2.2.1) HQ5.out.2.2.2).1 ⟨H24.out, by rw [HWr.out]; rfl⟩)
          have hE := HQ5.out.2.1
          rw [HD.out.2.2.1] at hE
          have HEE := Lib.hid hE
          clear hE
          go_wp2_with fail
          refine (refAll_any vd _ 16384 w13 HT13.out (by rw [List.length_drop]; omega)).mono ?_
          rintro e w14 ⟨vw, pw, rfl, hmw, hsw, hbw⟩
          have HP14 := Lib.hid (HP13.out.grown hbw)
          have HSW := Lib.hid hsw
          have hmq : qs.map (·.1) = pw.map (·.1) := HD.out.2.1.trans hmw.symm
          obtain ⟨aw, cw, rfl, _⟩ := id hsw.2
          clear hmw hsw hbw
          generalize (allOf 16384 (all.drop 24)).2.1 = it at HEE ⊢
          generalize (allOf 16384 (all.drop 24)).2.2 = ie at HEE ⊢
          go_wp2_with fail
          refine (refList_any _ _ qs pw w14 (SlF.of_own HP14.out.told (fun p hp => (HP14.out.pay p (List.mem_append_left _ hp)).1)) HSW.out).mono ?_
          rintro e w15 ⟨rfl, hb15⟩
          rw [decide_eq_true hmq]
          have HP15 := Lib.hid (HP14.out.grown hb15)
          clear hb15 hmq
          by_cases h0 : ie = 0
          · subst h0
            obtain rfl : e7 = 2 := by rw [HEE.out]; simp [endE]
            go_wp2_with fail
            refine (alive13 _).mono ?_
            rintro e w16 ⟨rfl, hbw16⟩
            have HP15a := Lib.hid (HP15.out.grown hbw16)
            clear hbw16
            go_wp2_with fail
            refine (pBegun_any Ta _ O5 s5 w16 HP15a.out.a).mono ?_
            rintro e w16b ⟨rfl, hbw16⟩
            rw [HD.out.1]
            have HE := Lib.hid (HP15a.out.bel.trans (hbw16.mono HP15a.out.bel.size))
            clear hbw16
            go_wp2_with fail
            go_ret
            exact ⟨rfl, HE.out⟩
          · obtain rfl : e7 = ie := by rw [HEE.out, endE, if_neg h0]
            have hq1 : (e7 == e7) = true := by simp
            go_wp2_with fail
            refine (alive13 _).mono ?_
            rintro e w16 ⟨rfl, hbw16⟩
            have HP15a := Lib.hid (HP15.out.grown hbw16)
            clear hbw16
            go_wp2_with fail
            refine (pBegun_any Ta _ O5 s5 w16 HP15a.out.a).mono ?_
            rintro e w16b ⟨rfl, hbw16⟩
            rw [HD.out.1]
            have HE := Lib.hid (HP15a.out.bel.trans (hbw16.mono HP15a.out.bel.size))
            clear hbw16
            go_wp2_with fail
            go_ret
            exact ⟨rfl, HE.out⟩
      · have d24 : decide ((24 : Int) ≤ (all.length : Int)) = false := decide_eq_false (by omega)
        have H24 := Lib.hid h24
        clear h24
        refine wp_region_quiet (C := fun w' => Below w10.heap.size w10 w') (by kernel_rfl) (by kernel_rfl) (Below.refl _ _).drew ?_
        refine quiet_take (.slice aa all.length ca) rfl (quiet_pure (fun w => rfl)) ?_
        simp only [Act.put, List.setIfInBounds_toArray, List.set_cons_zero, List.set_cons_succ]
        refine quiet_take (.int .i64 (all.length : Nat)) rfl (quiet_pure (fun w => by simp [go_sem])) ?_
        simp only [Act.put, List.setIfInBounds_toArray, List.set_cons_zero, List.set_cons_succ]
        refine quiet_take (.bool false) rfl (quiet_pure (fun w => by simp [go_sem]; have := H24.out; omega)) ?_
        simp only [Act.put, List.setIfInBounds_toArray, List.set_cons_zero, List.set_cons_succ]
        refine quiet_take (.bool false) rfl (quiet_pure (fun w => rfl)) ?_
        simp only [Act.put, List.setIfInBounds_toArray, List.set_cons_zero, List.set_cons_succ]
        refine quiet_skip rfl ?_
        simp only [Act.put, List.setIfInBounds_toArray, List.set_cons_zero, List.set_cons_succ]
        refine quiet_skip rfl ?_
        simp only [Act.put, List.setIfInBounds_toArray, List.set_cons_zero, List.set_cons_succ]
        refine quiet_skip rfl ?_
        simp only [Act.put, List.setIfInBounds_toArray, List.set_cons_zero, List.set_cons_succ]
        refine quiet_skip rfl ?_
        simp only [Act.put, List.setIfInBounds_toArray, List.set_cons_zero, List.set_cons_succ]
        refine quiet_take (.bool false) rfl (quiet_pure (fun w => rfl)) ?_
        simp only [Act.put, List.setIfInBounds_toArray, List.set_cons_zero, List.set_cons_succ]
        refine quiet_take (.bool false) rfl (quiet_pure (fun w => rfl)) ?_
        simp only [Act.put, List.setIfInBounds_toArray, List.set_cons_zero, List.set_cons_succ]
        intro w11 hb11
        have HP13 := Lib.hid (HP10.out.grown hb11)
        clear HP10 d24
        clear hb11
        have HD := Lib.hid ((CkInv.done HQ5.out.1 (by rw [← HQ5.out.2.1]; exact HQ5.out.2.2.1) HQ5.out.2.2.2).2 (fun h => H24.out h.1))
        have hq0 : ((qs.length : Int) == 0) = true := by have := congrArg List.length HD.out.2.1; simpa using this
        go_wp2_with fail
        refine (alive13 _).mono ?_
        rintro e w16 ⟨rfl, hbw16⟩
        have HP13a := Lib.hid (HP13.out.grown hbw16)
        clear hbw16
        go_wp2_with fail
        refine (pBegun_any Ta _ O5 s5 w16 HP13a.out.a).mono ?_
        rintro e w16b ⟨rfl, hbw16⟩
        rw [HD.out.1]
        have HE := Lib.hid (HP13a.out.bel.trans (hbw16.mono HP13a.out.bel.size))
        clear hbw16
        go_wp2_with fail
        go_ret
        exact ⟨rfl, HE.out⟩
end Go.Proofs.Ytappehjcbjplaaa
