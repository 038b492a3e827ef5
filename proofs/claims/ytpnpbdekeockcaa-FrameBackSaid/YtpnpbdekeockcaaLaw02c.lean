/-
  FrameBack: its walk: each frame by itself; all of them.
-/
import Derived.Test.YtpnpbdekeockcaaLaw02b
import Derived.Test.YtpnpbdekeockcaaBackMath
namespace Go.Proofs.Ytpnpbdekeockcaa
open Go.RowKit

theorem Try.infoI : (Try.prog.info? 3).map (fun i => (i.zero, i.size, i.bytes)) = some (some (.int .i64 0), 1, 8) := by kernel_rfl
theorem own_apart {w : World} {base base' n n' size size' : Nat} {e e' : TypeId} {v v' : Value} {xs xs' : List Value} (h : w.ownsRow base e size v n xs) (h' : w.ownsRow base' e' size' v' n' xs') (hne : e ≠ e') : ∀ g, v.ownBlock = some g → v'.ownBlock ≠ some g := fun g hg hg' => by
  obtain ⟨cs, fr, h1⟩ := Ty.of_own h g hg
  obtain ⟨cs', fr', h2⟩ := Ty.of_own h' g hg'
  rw [h1] at h2
  simp only [Option.some.injEq, Obj.cells.injEq] at h2
  exact hne h2.2.1

/-- where each of them ends -/
def Ends (fs : List Fr) (es : List Int) : Prop := es.length = fs.length ∧ ∀ j, j < fs.length → at0 es j = ((encs (fs.take (j + 1))).length : Int)
theorem Ends.snoc {fs : List Fr} {es : List Int} (h : Ends fs es) (f : Fr) : Ends (fs ++ [f]) (es ++ [((encs fs).length : Int) + (f.enc.length : Int)]) := by
  obtain ⟨h1, h2⟩ := h
  refine ⟨by simp [h1], fun j hj => ?_⟩
  by_cases hjl : j < fs.length
  · have e1 : at0 (es ++ [((encs fs).length : Int) + (f.enc.length : Int)]) j = at0 es j := by simp [at0, List.getElem?_append_left (by omega : j < es.length)]
    rw [e1, h2 j hjl, List.take_append_of_le_length (by omega)]
  · have e2 : j = fs.length := by simp at hj; omega
    subst e2
    have e1 : at0 (es ++ [((encs fs).length : Int) + (f.enc.length : Int)]) fs.length = ((encs fs).length : Int) + (f.enc.length : Int) := by
      rw [← h1]; simp [at0]
    rw [e1, List.take_of_length_le (by simp), encs_snoc, List.length_append]
    omega

theorem load_frAt {o : Oper} {ρ : Operand → Value} {w : World} (x : Operand) (b off : Nat) (f : Fr) (pv : Value) (ho : o.op = .load 25 x) (hx : ρ x = .pointer (some ⟨b, off, none⟩)) (h : frAt w b off f pv) :
    (execOp ρ o).run Try.prog w = .ok (.value (.agg #[.int .i64 f.kind, .int .i64 f.flags, .int .i64 f.stream, pv])) w := by
  obtain ⟨c0, c1, c2, c3⟩ := h
  unfold execOp
  simp [ho, hx, go_sem, c0, c1, c2, c3]
theorem quiet_loadAt {C : World → Prop} {o : Oper} {a : Act} (x : Operand) (b off : Nat) (f : Fr) (pv : Value) (ho : o.op = .load 25 x) (hx : a.eval x = .pointer (some ⟨b, off, none⟩)) (h : ∀ w, C w → frAt w b off f pv) :
    ∀ w, C w → o.quietAt Try.prog a C w (.agg #[.int .i64 f.kind, .int .i64 f.flags, .int .i64 f.stream, pv]) := fun w hw => by
  unfold Oper.quietAt
  rw [load_frAt x b off f pv ho hx (h w hw)]
  exact ⟨rfl, rfl⟩

theorem Try.sliceFr : Try.prog.underlying 36 = some (.slice (Try.prog.elem 36)) := by kernel_rfl
theorem Try.sizeFr (w : World) : (sizeOf (Try.prog.elem 36)).run Try.prog w = .ok 4 w := by kernel_rfl
/-- 'v[:hi]' of frames: its run, under a name -/
theorem SlF.upto {P : Program} {t : TypeId} (ht : P.underlying t = some (.slice (P.elem t))) (he : ∀ w, (sizeOf (P.elem t)).run P w = .ok 4 w) {w : World} {a : Option Addr} {n cap : Nat} {ps : List (Fr × Value)}
    (h : SlF w (.slice a n cap) ps) (hi : Nat) (h1 : hi ≤ ps.length) :
    ∃ a' c', (∀ (kl : IntKind) (w1 : World), (Instr.slice t (.slice a n cap) none (some (.int kl hi)) none).run P w1 = .ok (.slice a' hi c') w1) ∧ SlF w (.slice a' hi c') (ps.take hi) := by
  obtain ⟨hp, a', cap', e, hlc, hcm, hc⟩ := h
  simp only [Value.slice.injEq] at e
  obtain ⟨rfl, rfl, rfl⟩ := e
  refine ⟨if cap = 0 then a else a.map (·.add (0 * 4)), cap - 0, fun kl w1 => ?_, ?_⟩
  · rw [run_slice_h w1 t a ps.length cap ht kl hi (by omega) (by omega), he]
    rfl
  · have el : (ps.take hi).length = hi := by simp; omega
    refine ⟨fun p hpm => hp p (List.mem_of_mem_take hpm), _, _, by rw [el], by omega, by omega, ?_⟩
    rw [el]
    have ea : ∀ x : Addr, x.add (0 * 4) = x := fun x => by simp [Addr.add]
    by_cases h0 : hi = 0
    · refine .inl ⟨h0, fun hn => ?_⟩
      by_cases hcz : cap = 0
      · omega
      · rw [if_neg hcz] at hn
        rcases hc with ⟨_, hc⟩ | ⟨b, off, rfl, _⟩
        · cases a with
          | none => have := hc rfl; omega
          | some x => simp at hn
        · simp at hn
    · right
      rcases hc with ⟨hc, _⟩ | ⟨b, off, rfl, hb, hcc⟩
      · omega
      · refine ⟨b, off, ?_, hb, fun i p hip => hcc i p ?_⟩
        · rw [if_neg (by omega)]
          simp [ea]
        · rw [List.getElem?_take] at hip
          split at hip
          · exact hip
          · cases hip

set_option maxHeartbeats 6000000 in
set_option maxRecDepth 8000 in
theorem back02 (l bh : Value) (ls : List (Fr × Value)) (zs : List Int) (c : Int) (w : World) (hl : SlF w l ls) (hbh : Sl .u8 w bh zs) (hc0 : 0 ≤ c) (hc1 : c ≤ 65535) (h20 : ls.length ≤ 20) (hz : zs.length ≤ 2000) :
    Calls Try.prog 4 #[l, bh, .int .u16 c] w fun e w' => e = .returned (.bool true) ∧ Below w.heap.size w w' := by
  obtain ⟨hpl, al, kl, rfl, hl1, hl2, hcell⟩ := id hl
  obtain ⟨ab, kb, rfl, _⟩ := id hbh
  obtain ⟨i0, hi, hz0, hz1, hz2⟩ := info_parts Try.infoFr
  have d1 : decide ((20 : Int) < (ls.length : Int)) = false := decide_eq_false (by omega)
  have d2 : decide ((2000 : Int) < (zs.length : Int)) = false := decide_eq_false (by omega)
  go_enter Try.func4, Try.ntmps4
  go_wp2
  clear d1 d2
  go_loopw [7, 8, 9, 10] (fun b k e i wr => ∃ (m : Nat) (ps : List (Fr × Value)) (es : List Int), m ≤ ls.length ∧ ps.length ≤ m ∧ i = .int .i64 m ∧ wr.ownsRow w.heap.size 5 1 b (encs (ps.map (·.1))).length ((encs (ps.map (·.1))).map (Value.int .u8)) ∧
      wr.ownsRow w.heap.size 25 4 k ps.length (flat ps) ∧ wr.ownsRow w.heap.size 3 1 e es.length (es.map (Value.int .i64)) ∧ Hid (Ends (ps.map (·.1)) es) ∧ (∀ p ∈ ps, Sl .u8 w p.2 p.1.pay ∧ Okf 2000 p.1) ∧ Below w.heap.size w wr) (fun _ _ _ i _ => ls.length - (intOf i).toNat)
  case atStart => exact ⟨0, [], [], Nat.zero_le _, by simp, rfl, World.ownsRow_nil _ _ _ _, World.ownsRow_nil _ _ _ _, World.ownsRow_nil _ _ _ _, (by show Ends _ _; exact ⟨rfl, fun j hj => by simp at hj⟩), fun p hp => by simp at hp, Below.refl _ _⟩
  case round =>
    obtain ⟨m, ps, es, hm, hpm, rfl, hO, hK, hE, HE, hps, hB⟩ := hrel
    by_cases hlt : m < ls.length
    · obtain ⟨⟨f, pv⟩, hp⟩ : ∃ p, ls[m]? = some p := ⟨ls[m], List.getElem?_eq_getElem hlt⟩
      rcases hcell with ⟨h0, _⟩ | ⟨lb, off, rfl, hbl, hat⟩
      · omega
      have hf0 := hat m _ hp
      have hpv := hpl _ (List.mem_of_getElem? hp)
      dsimp only at hf0 hpv
      obtain ⟨ap, cp, rfl, _⟩ := id hpv
      clear hat
      have hf1 := hf0.below hB hbl
      obtain ⟨x0, x1, x2, x3⟩ := hf1
      by_cases hlong : 2000 < f.pay.length
      · have d3 : decide ((2000 : Int) < (f.pay.length : Int)) = true := decide_eq_true (by omega)
        clear hlong
        go_wp2_with (go_at_call 5; refine (alive02 _).mono ?_; rintro e w' ⟨rfl, hb⟩)
        go_ret
        exact ⟨rfl, hB.trans (hb.mono hB.size)⟩
      · have d3 : decide ((2000 : Int) < (f.pay.length : Int)) = false := decide_eq_false (by omega)
        by_cases hr : f.right
        · have HR := Lib.hid (decide_eq_true hr)
          have hok : Okf 2000 f := ⟨hr, hpv.fit, by omega⟩
          have hOK := Lib.hid hok
          have hel : f.enc.length ≤ 2009 := by rw [Fr.enc_length]; omega
          have hpw := hpv.below hB
          go_wp2_with fail
          refine (encode_yes _ f _ ⟨_, rfl, hpw⟩ hr).mono ?_
          rintro e w1 ⟨v1, rfl, hX, hb1⟩
          obtain ⟨a1, k1, rfl, _⟩ := owned_shape hX
          have hX1 := Sl.of_own hX (Fr.enc_fit hr hpv.fit) (by unfold maxLen; omega)
          have hB1 := hB.trans (hb1.mono hB.size)
          have hO1 := owned_below hO hb1
          have hK1 := owned_below hK hb1
          have hE1 := owned_below hE hb1
          have hpv1 := hpw.below hb1
          have HR' := hr
          clear hr x0 x1 x2 x3 hX hO hK hE hB hb1 hpw hok
          obtain ⟨x0, x1, x2, x3⟩ := hf0.below hB1 hbl
          go_wp2_with fail
          refine (right_any _ f _ ⟨_, rfl, hpv1⟩).mono ?_
          rintro e w2 ⟨rfl, hb2⟩
          rw [HR.out]
          have hB2 := hB1.trans (hb2.mono hB1.size)
          have hX2 := hX1.below hb2
          have hO2 := owned_below hO1 hb2
          have hK2 := owned_below hK1 hb2
          have hE2 := owned_below hE1 hb2
          have hz2' := hB2.size
          clear hX1 hO1 hK1 hE1 hpv1 hB1 hb2 x0 x1 x2 x3
          have hemp : (w2.alloc (.cells #[] 5)).ownsRow w2.heap.size 5 1 (.slice (some ⟨w2.heap.size, 0, none⟩) 0 0) 0 (([] : List Int).map (Value.int .u8)) := World.ownsRow_made _ _ 0 (Nat.le_refl _) (by decide) rfl
          have hbh2 := hbh.below (hB2.alloc hB2.size (.cells #[] 5))
          go_wp2_with (first
            | (at_builtin; refine app_ints rfl (.tmp 71) (.tmp 72) 23 rfl w2.heap.size 5 .u8 1 Try.underlying23 Try.info5' _ 0 [] rfl hemp _ f.enc rfl (hX2.alloc _) (by simp; omega) (by unfold maxLen; simp; omega) (by simp) ?_; intro v3 w3 hO3 hc3 hg3; simp only [List.length_nil, Nat.zero_add, List.nil_append] at hO3; obtain ⟨a3, cp3, rfl, _⟩ := owned_shape hO3; have hb3 := ((Below.refl _ _).alloc (Nat.le_refl _) (.cells #[] 5)).trans hc3; have hbh3 := hbh.below (hB2.trans (hb3.mono hB2.size)))
            | (at_builtin; refine app_ints rfl (.tmp 73) (.tmp 74) 23 rfl w2.heap.size 5 .u8 1 Try.underlying23 Try.info5' _ _ f.enc rfl hO3 _ zs rfl hbh3 (by simp; omega) (by unfold maxLen; simp; omega) hb3.size ?_; intro v4 w4 hO4 hc4 hg4; obtain ⟨a4, cp4, rfl, _⟩ := owned_shape hO4))
          have hA4 := Sl.of_own hO4 ((Fr.enc_fit HR' hpv.fit).append hbh.fit) (by unfold maxLen; simp; omega)
          have hb4 := hb3.trans hc4
          obtain ⟨q1, q2, q3⟩ := next_enc hOK.out zs
          refine (next_any _ (f.enc ++ zs) 2000 _ hA4).mono ?_
          rintro e w5 ⟨fv, rfl, ⟨p5, rfl, hp5, _⟩, hb5⟩
          rw [q3] at hp5
          rw [q1, q2, q3]
          obtain ⟨a5, k5, rfl, _⟩ := id hp5
          have hb5' := hb4.trans (hb5.mono hb4.size)
          have hB5 := hB2.trans (hb5'.mono hB2.size)
          have hX5 := hX2.below hb5'
          have hO5 := owned_below hO2 hb5'
          have hK5 := owned_below hK2 hb5'
          have hE5 := owned_below hE2 hb5'
          clear q1 q2 q3 hA4 hb4 hb5 hb5' hO4 hc4 hg4 hO3 hc3 hg3 hb3 hbh3 hX2 hO2 hK2 hE2 hz2' hemp hbh2
          go_wp2_with fail
          have hB6 := hB5.alloc hB5.size (.cells #[.int .i64 f.kind, .int .i64 f.flags, .int .i64 f.stream, .slice a5 f.pay.length k5] 25)
          have hX6 := hX5.alloc (.cells #[.int .i64 f.kind, .int .i64 f.flags, .int .i64 f.stream, .slice a5 f.pay.length k5] 25)
          have hO6 := hO5.alloc (.cells #[.int .i64 f.kind, .int .i64 f.flags, .int .i64 f.stream, .slice a5 f.pay.length k5] 25)
          have hK6 := hK5.alloc (.cells #[.int .i64 f.kind, .int .i64 f.flags, .int .i64 f.stream, .slice a5 f.pay.length k5] 25)
          have hE6 := hE5.alloc (.cells #[.int .i64 f.kind, .int .i64 f.flags, .int .i64 f.stream, .slice a5 f.pay.length k5] 25)
          have hp6 := hp5.alloc (.cells #[.int .i64 f.kind, .int .i64 f.flags, .int .i64 f.stream, .slice a5 f.pay.length k5] 25)
          have F6 := Bx.new w5 25 f (.slice a5 f.pay.length k5)
          obtain ⟨W6, hW6⟩ : ∃ W6, w5.alloc (.cells #[.int .i64 f.kind, .int .i64 f.flags, .int .i64 f.stream, .slice a5 f.pay.length k5] 25) = W6 := ⟨_, rfl⟩
          rw [hW6] at hB6 hX6 hO6 hK6 hE6 hp6 F6 ⊢
          clear hW6 hB5 hX5 hO5 hK5 hE5 hp5
          have hf6 := hf0.below hB6 hbl
          have hv6 := hpv.below hB6
          have hlb6 := Nat.lt_of_lt_of_le hbl hB6.size
          refine wp_region_quiet (C := fun w' => Below W6.heap.size W6 w') (by kernel_rfl) (by kernel_rfl) (Below.refl _ _).drew ?_
          refine quiet_take _ rfl (quiet_load (.tmp 13) w5.heap.size f _ rfl rfl fun w hw => F6.below hw) ?_
          simp only [Act.put, List.setIfInBounds_toArray, List.set_cons_zero, List.set_cons_succ]
          refine quiet_take (.slice (some ⟨lb, off, none⟩) ls.length kl) rfl (quiet_pure fun w => rfl) ?_
          simp only [Act.put, List.setIfInBounds_toArray, List.set_cons_zero, List.set_cons_succ]
          refine quiet_take (.int .i64 m) rfl (quiet_pure fun w => rfl) ?_
          simp only [Act.put, List.setIfInBounds_toArray, List.set_cons_zero, List.set_cons_succ]
          refine quiet_take (.pointer (some ⟨lb, off + m * 4, none⟩)) rfl (quiet_pure fun w => by simp [go_sem, hlt]) ?_
          simp only [Act.put, List.setIfInBounds_toArray, List.set_cons_zero, List.set_cons_succ]
          refine quiet_take _ rfl (quiet_loadAt (.tmp 83) lb (off + m * 4) f (.slice ap f.pay.length cp) rfl rfl fun w hw => hf6.below hw hlb6) ?_
          simp only [Act.put, List.setIfInBounds_toArray, List.set_cons_zero, List.set_cons_succ]
          refine quiet_take (.bool true) rfl (quiet_call 12 _ _ rfl [.agg #[.int .i64 f.kind, .int .i64 f.flags, .int .i64 f.stream, .slice a5 f.pay.length k5], .agg #[.int .i64 f.kind, .int .i64 f.flags, .int .i64 f.stream, .slice ap f.pay.length cp]] rfl (enters_of Try.func12 (by kernel_rfl) rfl) fun w hw => (refSame_frame _ _ f f w ⟨_, rfl, hp6.below hw⟩ ⟨_, rfl, hv6.below hw⟩).mono fun e w' ⟨he, hb⟩ => ⟨by rw [he, decide_eq_true rfl], Below.trans hw (hb.mono (Below.size hw))⟩) ?_
          simp only [Act.put, List.setIfInBounds_toArray, List.set_cons_zero, List.set_cons_succ]
          refine quiet_take (.bool true) rfl (quiet_pure fun w => rfl) ?_
          simp only [Act.put, List.setIfInBounds_toArray, List.set_cons_zero, List.set_cons_succ]
          refine wpQuiet_nil fun w7 (hb7 : Below W6.heap.size W6 w7) => ?_
          have hB7 := hB6.trans (hb7.mono hB6.size)
          have hX7 := hX6.below hb7
          have hO7 := owned_below hO6 hb7
          have hK7 := owned_below hK6 hb7
          have hE7 := owned_below hE6 hb7
          clear hf6 hv6 hlb6 hb7 hB6 hX6 hO6 hK6 hE6 hp6 F6
          have hlen : (encs (ps.map (·.1))).length ≤ 40180 := by
            have := encs_length_le (most := 2000) (fs := ps.map (·.1)) (fun g hg => by obtain ⟨q, hq, rfl⟩ := List.mem_map.1 hg; exact (hps q hq).2)
            simp at this
            omega
          have hels := HE.out.1
          rw [List.length_map] at hels
          have hes20 : es.length ≤ 20 := by omega
          clear hels
          go_wp2_with (first
            | (at_builtin; refine app_ints rfl (.tmp 98) (.tmp 99) 23 rfl w.heap.size 5 .u8 1 Try.underlying23 Try.info5' u7 _ (encs (ps.map (·.1))) rfl hO7 _ f.enc rfl hX7 (by omega) (by unfold maxLen; omega) hB7.size ?_; intro v8 w8 hO8 hc8 hg8; have hK8 := owned_kept hK7 hg8 (own_apart hK7 hO7 (by decide)); have hE8 := owned_kept hE7 hg8 (own_apart hE7 hO7 (by decide)); have hB8 := hB7.trans hc8; obtain ⟨a8, k8, rfl, _⟩ := owned_shape hO8; obtain ⟨y0, y1, y2, y3⟩ := hf0.below hB8 hbl)
            | (at_builtin; refine app_row rfl (.tmp 101) (.tmp 106) 36 rfl w.heap.size 25 i0 _ 4 48 Try.underlying36 hi hz0 hz1 hz2 rfl (by decide) u8 ps.length (flat ps) rfl (hK8.alloc _) _ 1 1 (frCells f (.slice ap f.pay.length cp)) rfl (fun h => by cases h) (by simp [frCells]) (fun ad h => by cases h; exact frCells_laid _ f _ _ _ rfl) (frCells_one f) (by unfold maxLen; omega) (by omega) (by have := hB8.size; simp; omega) ?_; intro v9 w9 hK9 hc9 hg9; have hO9 := owned_kept (hO8.alloc _) hg9 (own_apart hO8 hK8 (by decide)); have hE9 := owned_kept (hE8.alloc _) hg9 (own_apart hE8 hK8 (by decide)); have hB9 := (hB8.alloc hB8.size _).trans hc9; obtain ⟨a9, k9, rfl, _⟩ := owned_shape hK9)
            | (at_builtin; refine app_ints rfl (.tmp 108) (.tmp 111) 42 rfl w.heap.size 3 .i64 8 Try.underlying42 Try.infoI u9 _ es rfl (hE9.alloc _) _ [((encs (ps.map (·.1))).length : Int) + (f.enc.length : Int)] rfl (Sl.lit' _ rfl rfl rfl (by intro n hn; simp only [List.mem_singleton] at hn; subst hn; exact WalkArith.wf_i64 (by omega)) (by simp [maxLen])) (by simp; omega) (by unfold maxLen; simp; omega) (by have := hB9.size; simp; omega) ?_; intro v10 w10 hE10 hc10 hg10; have hO10 := owned_kept (hO9.alloc _) hg10 (own_apart hO9 hE9 (by decide)); have hK10 := owned_kept (hK9.alloc _) hg10 (own_apart hK9 hE9 (by decide)); have hB10 := (hB9.alloc hB9.size _).trans hc10))
          have eM : encs ((ps ++ [(f, Value.slice ap f.pay.length cp)]).map (·.1)) = encs (ps.map (·.1)) ++ f.enc := by rw [List.map_append]; exact encs_snoc _ _
          have EM := Lib.hid eM
          clear eM
          go_roundw
          case rel =>
            refine ⟨m + 1, ps ++ [(f, .slice ap f.pay.length cp)], es ++ [((encs (ps.map (·.1))).length : Int) + (f.enc.length : Int)], by omega, by simp; omega, by go_num, ?_, ?_, ?_, ?_, ?_, hB10⟩
            · rw [EM.out, List.length_append]; exact hO10
            · rw [flat_append, flat_one, List.length_append]; exact hK10
            · rw [List.length_append]; exact hE10
            · show Ends _ _
              rw [List.map_append]
              exact HE.out.snoc f
            · intro q hq
              rcases List.mem_append.1 hq with hq | hq
              · exact hps q hq
              · simp only [List.mem_singleton] at hq
                subst hq
                exact ⟨hpv, hOK.out⟩
          case measure => simp [intOf]; omega
        · have HR := Lib.hid (decide_eq_false hr)
          have hpw := hpv.below hB
          go_wp2_with fail
          refine (encode_no _ f _ ⟨_, rfl, hpw⟩ hr).mono ?_
          rintro e w1 ⟨rfl, hb1⟩
          have hB1 := hB.trans (hb1.mono hB.size)
          have hO1 := owned_below hO hb1
          have hK1 := owned_below hK hb1
          have hE1 := owned_below hE hb1
          have hpv1 := hpw.below hb1
          clear hr x0 x1 x2 x3 hO hK hE hB hb1 hpw
          obtain ⟨x0, x1, x2, x3⟩ := hf0.below hB1 hbl
          go_wp2_with fail
          refine (right_any _ f _ ⟨_, rfl, hpv1⟩).mono ?_
          rintro e w2 ⟨rfl, hb2⟩
          rw [HR.out]
          have hB2 := hB1.trans (hb2.mono hB1.size)
          have hO2 := owned_below hO1 hb2
          have hK2 := owned_below hK1 hb2
          have hE2 := owned_below hE1 hb2
          clear hO1 hK1 hE1 hpv1 hB1 hb2 x0 x1 x2 x3
          go_wp2_with fail
          go_roundw
          case rel => exact ⟨m + 1, ps, es, by omega, by omega, by go_num, hO2, hK2, hE2, HE, hps, hB2⟩
          case measure => simp [intOf]; omega
    · have hok : ∀ f ∈ ps.map (·.1), Okf 2000 f := fun g hg => by obtain ⟨q, hq, rfl⟩ := List.mem_map.1 hg; exact (hps q hq).2
      have hlen : (encs (ps.map (·.1))).length ≤ 40180 := by
        have := encs_length_le (most := 2000) hok
        simp at this
        omega
      have hels := HE.out.1
      rw [List.length_map] at hels
      have HL := Lib.hid hels
      have hes20 : es.length ≤ 20 := by omega
      clear hels
      have hAB := Sl.of_own hO (encs_fit hok) (by unfold maxLen; omega)
      have hSK := SlF.of_own hK (fun p hp => (hps p hp).1.below hB)
      have hall := allOf_encs hok
      obtain ⟨aB, kB, rfl, _⟩ := owned_shape hO
      obtain ⟨aK, kK, rfl, _⟩ := owned_shape hK
      obtain ⟨aE, kE, rfl, _⟩ := owned_shape hE
      go_wp2_with fail
      refine (all_any _ _ 2000 _ hAB (by omega)).mono ?_
      rintro e w1 ⟨vl, qs, rfl, hqs, hsl, hb1⟩
      rw [hall] at hqs ⊢
      have hAB1 := hAB.below hb1
      have hSK1 := hSK.below hb1
      have hE1 := owned_below hE hb1
      have hB1 := hB.trans (hb1.mono hB.size)
      clear hall hAB hSK hO hK hE hB hb1
      obtain ⟨aq, kq, rfl, _⟩ := id hsl.2
      go_wp2_with fail
      refine (refList_any _ _ qs ps _ hsl hSK1).mono ?_
      rintro e w2 ⟨rfl, hb2⟩
      have hd2 : decide (qs.map (·.1) = ps.map (·.1)) = true := decide_eq_true hqs
      rw [hd2]
      clear hd2
      have hAB2 := hAB1.below hb2
      have hSK2 := hSK1.below hb2
      have hE2 := owned_below hE1 hb2
      have hB2 := hB1.trans (hb2.mono hB1.size)
      clear hAB1 hSK1 hE1 hB1 hb2 hqs hsl
      go_wp2_with fail
      obtain ⟨S, hS, hSL⟩ : ∃ S : Nat, c % (((encs (ps.map (·.1))).length : Int) + 1) = (S : Int) ∧ S ≤ (encs (ps.map (·.1))).length := by
        have h1 := Int.emod_nonneg c (show (((encs (ps.map (·.1))).length : Int) + 1) ≠ 0 by omega)
        have h2 := Int.emod_lt_of_pos c (show (0 : Int) < (((encs (ps.map (·.1))).length : Int) + 1) by omega)
        exact ⟨(c % (((encs (ps.map (·.1))).length : Int) + 1)).toNat, by omega, by omega⟩
      rw [hS]
      clear hS
      obtain ⟨W, hW⟩ : ∃ W, W = cutW (ps.map (·.1)) S := ⟨_, rfl⟩
      have hWl : W ≤ es.length := by rw [hW, HL.out]; have := cutW_le (ps.map (·.1)) S; simpa using this
      have hWp : W ≤ ps.length := by have := HL.out; omega
      have HW := Lib.hid hW
      have hIff : ∀ j, j < es.length → (at0 es j ≤ (S : Int) ↔ j + 1 ≤ W) := fun j hj => by
        have hj' : j < (ps.map (·.1)).length := by have := HL.out; simp; omega
        rw [HE.out.2 j hj', HW.out, ← cutW_iff (ps.map (·.1)) S (j + 1) (by omega)]
        omega
      clear hW
      go_loopw [22, 23] (fun wh i wr' => ∃ k q : Nat, k ≤ es.length ∧ q ≤ k ∧ i = .int .i64 k ∧ wh = .int .i64 q ∧ Hid (q = min k W) ∧ wr' = w2) (fun _ i _ => es.length - (intOf i).toNat)
      case atStart => exact ⟨0, 0, Nat.zero_le _, Nat.le_refl _, rfl, rfl, (by show _ = _; simp), rfl⟩
      case round =>
        obtain ⟨k, q, hk, hqk, rfl, rfl, HQ, rfl⟩ := hrel
        by_cases hke : k < es.length
        · obtain ⟨g, cap', cs, e, _⟩ := owned_block' hE2 (by omega)
          simp only [Value.slice.injEq, true_and] at e
          obtain ⟨rfl, rfl⟩ := e
          have ck := owned_cell hE2 k hke
          have hi := hIff k hke
          by_cases hkw : k + 1 ≤ W
          · have dk : decide (at0 es k ≤ (S : Int)) = true := decide_eq_true (hi.2 hkw)
            clear hi
            go_wp2_with fail
            go_roundw
            case rel => exact ⟨k + 1, k + 1, by omega, Nat.le_refl _, by go_num, by go_num, (by show _ = _; omega), trivial⟩
            case measure => simp [intOf]; omega
          · have dk : decide (at0 es k ≤ (S : Int)) = false := decide_eq_false (fun h => hkw (hi.1 h))
            clear hi
            go_wp2_with fail
            go_roundw
            case rel => exact ⟨k + 1, q, by omega, by omega, by go_num, rfl, (by show _ = _; have := HQ.out; omega), trivial⟩
            case measure => simp [intOf]; omega
        · obtain rfl : q = W := by have := HQ.out; omega
          have hcutA := allOf_cut (most := 2000) S hok hSL
          rw [← HW.out] at hcutA
          have hbet := between_iff (ps.map (·.1)) S
          rw [← HW.out] at hbet
          obtain ⟨vc, hrc, hvc⟩ := hAB2.upto Try.sliceB Try.sizeB (S : Int) (by omega) (by omega)
          rw [Int.toNat_natCast] at hvc
          obtain ⟨aW, kW, hrW, hSW⟩ := hSK2.upto Try.sliceFr Try.sizeFr q hWp
          by_cases hS0 : S = 0
          · have HC := Lib.hid hcutA
            rw [if_pos (hbet.2 (.inl hS0))] at HC
            have e0 : ((S : Int) == 0) = true := by simp [hS0]
            clear hcutA hbet hIff hS0
            go_wp2_with fail
            have hcut := HC.out
            refine (all_any _ _ 2000 _ hvc (by simp; omega)).mono ?_
            rintro e w3 ⟨vl3, qs3, rfl, hqs3, hsl3, hb3⟩
            rw [hcut] at hqs3 ⊢
            have hSW3 := hSW.below hb3
            have hB3 := hB2.trans (hb3.mono hB2.size)
            clear hcut hSW hb3
            obtain ⟨aq3, kq3, rfl, _⟩ := id hsl3.2
            go_wp2_with fail
            refine (refList_any _ _ qs3 (ps.take q) _ hsl3 hSW3).mono ?_
            rintro e w4 ⟨rfl, hb4⟩
            have hd4 : decide (qs3.map (·.1) = (ps.take q).map (·.1)) = true := decide_eq_true (by rw [hqs3, List.map_take])
            rw [hd4]
            clear hd4
            have hB4 := hB3.trans (hb4.mono hB3.size)
            clear hqs3 hsl3 hSW3 hB3 hb4
            go_wp2_with fail
            refine (alive02 _).mono ?_
            rintro e w5 ⟨rfl, hb5⟩
            have hB5 := hB4.trans (hb5.mono hB4.size)
            clear hB4 hb5
            go_wp2_with fail
            go_ret
            exact ⟨rfl, hB5⟩
          · have e0 : ((S : Int) == 0) = false := by simp [hS0]
            by_cases hq0 : q = 0
            · have HC := Lib.hid hcutA
              rw [if_neg (fun h => by rcases hbet.1 h with h | ⟨h, _⟩ <;> omega)] at HC
              clear hcutA hbet hIff hS0
              subst hq0
              have hrW0 : ∀ (kl : IntKind) (w1 : World), (Instr.slice 36 (.slice aK ps.length kK) none (some (.int kl 0)) none).run Try.prog w1 = .ok (.slice aW 0 kW) w1 := fun kl w1 => hrW kl w1
              go_wp2_with fail
              have hcut := HC.out
              refine (all_any _ _ 2000 _ hvc (by simp; omega)).mono ?_
              rintro e w3 ⟨vl3, qs3, rfl, hqs3, hsl3, hb3⟩
              rw [hcut] at hqs3 ⊢
              have hSW3 := hSW.below hb3
              have hB3 := hB2.trans (hb3.mono hB2.size)
              clear hcut hSW hb3
              obtain ⟨aq3, kq3, rfl, _⟩ := id hsl3.2
              go_wp2_with fail
              refine (refList_any _ _ qs3 (ps.take 0) _ hsl3 hSW3).mono ?_
              rintro e w4 ⟨rfl, hb4⟩
              have hd4 : decide (qs3.map (·.1) = (ps.take 0).map (·.1)) = true := decide_eq_true (by rw [hqs3, List.map_take])
              rw [hd4]
              clear hd4
              have hB4 := hB3.trans (hb4.mono hB3.size)
              clear hqs3 hsl3 hSW3 hB3 hb4
              go_wp2_with fail
              refine (alive02 _).mono ?_
              rintro e w5 ⟨rfl, hb5⟩
              have hB5 := hB4.trans (hb5.mono hB4.size)
              clear hB4 hb5
              go_wp2_with fail
              go_ret
              exact ⟨rfl, hB5⟩
            · obtain ⟨j, rfl⟩ : ∃ j, q = j + 1 := ⟨q - 1, by omega⟩
              have hje : j < es.length := by omega
              have hj' : j < (ps.map (·.1)).length := by have := HL.out; simp; omega
              have hval := HE.out.2 j hj'
              obtain ⟨g, cap', cs, e, _⟩ := owned_block' hE2 (by omega)
              simp only [Value.slice.injEq, true_and] at e
              obtain ⟨rfl, rfl⟩ := e
              have ck := owned_cell hE2 j hje
              have e1 : decide ((0 : Int) < ((j : Int) + 1)) = true := decide_eq_true (by omega)
              have e3 : decide (0 < j + 1) = true := decide_eq_true (by omega)
              have hrW1 : ∀ (kl : IntKind) (w1 : World), (Instr.slice 36 (.slice aK ps.length kK) none (some (.int kl ((j : Int) + 1))) none).run Try.prog w1 = .ok (.slice aW (j + 1) kW) w1 := fun kl w1 => hrW kl w1
              by_cases hEnd : (encs ((ps.map (·.1)).take (j + 1))).length = S
              · have HC := Lib.hid hcutA
                rw [if_pos hEnd] at HC
                have e2 : (at0 es j == (S : Int)) = true := by rw [hval, hEnd]; simp
                clear hcutA hbet hIff hS0 hq0 hval hEnd
                go_wp2_with fail
                have hcut := HC.out
                refine (all_any _ _ 2000 _ hvc (by simp; omega)).mono ?_
                rintro e w3 ⟨vl3, qs3, rfl, hqs3, hsl3, hb3⟩
                rw [hcut] at hqs3 ⊢
                have hSW3 := hSW.below hb3
                have hB3 := hB2.trans (hb3.mono hB2.size)
                clear hcut hSW hb3
                obtain ⟨aq3, kq3, rfl, _⟩ := id hsl3.2
                go_wp2_with fail
                refine (refList_any _ _ qs3 (ps.take (j + 1)) _ hsl3 hSW3).mono ?_
                rintro e w4 ⟨rfl, hb4⟩
                have hd4 : decide (qs3.map (·.1) = (ps.take (j + 1)).map (·.1)) = true := decide_eq_true (by rw [hqs3, List.map_take])
                rw [hd4]
                clear hd4
                have hB4 := hB3.trans (hb4.mono hB3.size)
                clear hqs3 hsl3 hSW3 hB3 hb4
                go_wp2_with fail
                refine (alive02 _).mono ?_
                rintro e w5 ⟨rfl, hb5⟩
                have hB5 := hB4.trans (hb5.mono hB4.size)
                clear hB4 hb5
                go_wp2_with fail
                go_ret
                exact ⟨rfl, hB5⟩
              · have HC := Lib.hid hcutA
                rw [if_neg hEnd] at HC
                have e2 : (at0 es j == (S : Int)) = false := by rw [hval]; simp; omega
                clear hcutA hbet hIff hS0 hq0 hval hEnd
                go_wp2_with fail
                have hcut := HC.out
                refine (all_any _ _ 2000 _ hvc (by simp; omega)).mono ?_
                rintro e w3 ⟨vl3, qs3, rfl, hqs3, hsl3, hb3⟩
                rw [hcut] at hqs3 ⊢
                have hSW3 := hSW.below hb3
                have hB3 := hB2.trans (hb3.mono hB2.size)
                clear hcut hSW hb3
                obtain ⟨aq3, kq3, rfl, _⟩ := id hsl3.2
                go_wp2_with fail
                refine (refList_any _ _ qs3 (ps.take (j + 1)) _ hsl3 hSW3).mono ?_
                rintro e w4 ⟨rfl, hb4⟩
                have hd4 : decide (qs3.map (·.1) = (ps.take (j + 1)).map (·.1)) = true := decide_eq_true (by rw [hqs3, List.map_take])
                rw [hd4]
                clear hd4
                have hB4 := hB3.trans (hb4.mono hB3.size)
                clear hqs3 hsl3 hSW3 hB3 hb4
                go_wp2_with fail
                refine (alive02 _).mono ?_
                rintro e w5 ⟨rfl, hb5⟩
                have hB5 := hB4.trans (hb5.mono hB4.size)
                clear hB4 hb5
                go_wp2_with fail
                go_ret
                exact ⟨rfl, hB5⟩

set_option maxRecDepth 8000 in
theorem back02_long (l bh : Value) (ls : List (Fr × Value)) (zs : List Int) (c : Int) (w : World) (hl : SlF w l ls) (hbh : Sl .u8 w bh zs) (h : 20 < ls.length ∨ 2000 < zs.length) :
    Calls Try.prog 4 #[l, bh, .int .u16 c] w fun e w' => e = .returned (.bool true) ∧ Below w.heap.size w w' := by
  obtain ⟨hpl, al, kl, rfl, _⟩ := hl
  obtain ⟨ab, kb, rfl, _⟩ := hbh
  clear hpl
  by_cases h1 : 20 < ls.length
  · have d1 : decide ((20 : Int) < (ls.length : Int)) = true := decide_eq_true (Int.ofNat_lt.mpr h1)
    clear h h1
    go_enter Try.func4, Try.ntmps4
    go_wp2_with (go_at_call 5; refine (alive02 _).mono ?_; rintro e w' ⟨rfl, hb⟩)
    go_ret
    exact ⟨rfl, hb⟩
  · have h2 : 2000 < zs.length := h.resolve_left h1
    have d1 : decide ((20 : Int) < (ls.length : Int)) = false := decide_eq_false (fun h => h1 (Int.ofNat_lt.mp h))
    have d2 : decide ((2000 : Int) < (zs.length : Int)) = true := decide_eq_true (Int.ofNat_lt.mpr h2)
    clear h h1 h2
    go_enter Try.func4, Try.ntmps4
    go_wp2_with (go_at_call 5; refine (alive02 _).mono ?_; rintro e w' ⟨rfl, hb⟩)
    go_ret
    exact ⟨rfl, hb⟩

theorem back02_any (l bh : Value) (ls : List (Fr × Value)) (zs : List Int) (c : Int) (w : World) (hl : SlF w l ls) (hbh : Sl .u8 w bh zs) (hc : (Lit.int .u16 c).wf = true) :
    Calls Try.prog 4 #[l, bh, .int .u16 c] w fun e w' => e = .returned (.bool true) ∧ Below w.heap.size w w' := by
  by_cases h : 20 < ls.length ∨ 2000 < zs.length
  · exact back02_long l bh ls zs c w hl hbh h
  · have hb := bounds_u16 hc
    exact back02 l bh ls zs c w hl hbh hb.1 hb.2 (by omega) (by omega)
end Go.Proofs.Ytpnpbdekeockcaa
