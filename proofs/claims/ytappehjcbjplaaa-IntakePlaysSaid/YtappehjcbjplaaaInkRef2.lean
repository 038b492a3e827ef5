
/-
  Layer 13's reference: rest, Feed, Next, Begun, Len, Begin (written by wip/tools/gen13r.py).
-/
import Derived.Test.YtappehjcbjplaaaInkRef
import Derived.Test.YtappehjcbjplaaaRegion
import Derived.Test.YtappehjcbjplaaaHeld
namespace Go.Proofs.Ytappehjcbjplaaa
set_option maxRecDepth 20000
open Go.RowKit

/-- what Next yields -/
def NxV (F : Fr) (n e : Int) (v : Value) (w : World) : Prop := ∃ ap cp, v = .tuple #[.agg #[.int .i64 F.kind, .int .i64 F.flags, .int .i64 F.stream, .slice ap F.pay.length cp], .int .i64 n, .int .i64 e] ∧ Sl .u8 w (.slice ap F.pay.length cp) F.pay ∧ Ty w 5 (.slice ap F.pay.length cp)
theorem NxV.below {F : Fr} {n e : Int} {v : Value} {w w' : World} (h : NxV F n e v w) (hb : Below w.heap.size w w') : NxV F n e v w' := by obtain ⟨ap, cp, x, h, ht⟩ := h; exact ⟨ap, cp, x, h.below hb, ht.below hb⟩
theorem refNext_nx (v : Value) (zs : List Int) (most : Int) (w : World) (hv : Sl .u8 w v zs) :
    Calls Try.prog 27 #[v, .int .i64 most] w fun e w' => ∃ x, e = .returned x ∧ NxV (nextF zs most) (nextN zs most) (nextE zs most) x w' ∧ Below w.heap.size w w' :=
  (refNext_any v zs most w hv).mono fun e w' ⟨fv, he, ⟨pv, hfv, hpv, hty⟩, hb⟩ => by
    obtain ⟨ap, cp, rfl, _⟩ := id hpv
    exact ⟨_, he, ⟨ap, cp, by rw [hfv], hpv, hty⟩, hb⟩
/-- a value of one kind of blocks is not in a block of another kind -/
theorem ty_ne {w : World} {t t' : TypeId} {v : Value} {C : Nat} {cs : Array Value} {fr : Nat × Nat} (h : Ty w t v) (hC : w.heap[C]? = some (.cells cs t' fr)) (hne : t ≠ t') : ∀ g, v.ownBlock = some g → some C ≠ some g := fun g hg e => by
  cases e
  obtain ⟨cs', fr', hh⟩ := h _ hg
  rw [hC] at hh
  simp only [Option.some.injEq, Obj.cells.injEq] at hh
  exact hne hh.2.1.symm
/-- a frame, its payload's slice open -/
def FrP (F : Fr) (v : Value) (w : World) : Prop := ∃ ap cp, v = .agg #[.int .i64 F.kind, .int .i64 F.flags, .int .i64 F.stream, .slice ap F.pay.length cp] ∧ Sl .u8 w (.slice ap F.pay.length cp) F.pay ∧ Ty w 5 (.slice ap F.pay.length cp)
theorem FrP.below {F : Fr} {v : Value} {w w' : World} (h : FrP F v w) (hb : Below w.heap.size w w') : FrP F v w' := by obtain ⟨ap, cp, x, h, ht⟩ := h; exact ⟨ap, cp, x, h.below hb, ht.below hb⟩
/-- an empty frame's block that was just made -/
def NewF (lo : Nat) (v : Value) (w : World) : Prop := ∃ C, v = .pointer (some ⟨C, 0, none⟩) ∧ lo ≤ C ∧ C < w.heap.size ∧ w.heap[C]? = some (.cells #[.int .i64 0, .int .i64 0, .int .i64 0, .slice none 0 0] 36 (0, 0))
theorem NewF.below {lo : Nat} {v : Value} {w w' : World} (h : NewF lo v w) (hb : Below w.heap.size w w') : NewF lo v w' := by
  obtain ⟨C, e, h1, h2, h3⟩ := h; exact ⟨C, e, h1, Nat.lt_of_lt_of_le h2 hb.size, (hb.block C h2).trans h3⟩
theorem store_fr13 {ops : Array Oper} {rest : List Oper} {o : Oper} {a : Act} {w : World} {Q : Exit → Act → World → Prop} (hgd : o.guard = none) (x y : Operand) (ho : o.op = .store 36 x y)
    (g : Nat) (F : Fr) (ap : Option Addr) (n cp : Nat) (cs : Array Value) (hx : a.eval x = .pointer (some ⟨g, 0, none⟩)) (hy : a.eval y = .agg #[.int .i64 F.kind, .int .i64 F.flags, .int .i64 F.stream, .slice ap n cp]) (hg : w.heap[g]? = some (.cells cs 36 (0, 0))) (hcs : cs.size = 4)
    (h : wpList Try.prog ops Q rest (a.put o.dst undef) (w.setRow g #[.int .i64 F.kind, .int .i64 F.flags, .int .i64 F.stream, .slice ap n cp])) : wpList Try.prog ops Q (o :: rest) a w :=
  wpList_store_row hgd 36 x y ho g _ hx hy 36 cs hg (by rw [show (#[Value.int .i64 F.kind, .int .i64 F.flags, .int .i64 F.stream, .slice ap n cp] : Array Value).size = 4 from rfl]; kernel_rfl) (by rw [hcs]; rfl) (by simp [Value.oneCell']) h

set_option maxHeartbeats 8000000 in
theorem refRest_any (R : Nat) (most : Int) (bv : Value) (told : Nat) (over : Int) (bs : List Int) (w : World) (hB : RkBlk w R most bv told over) (hv : Sl .u8 w bv bs) (hw : Whole most bs told) (hl : bs.length ≤ 100000000) :
    Calls Try.prog 28 #[.pointer (some ⟨R, 0, none⟩)] w fun e w' => ∃ v, e = .returned v ∧ Sl .u8 w' v (bs.drop (offs most bs told)) ∧ Below w.heap.size w w' := by
  obtain ⟨a, c, rfl, hc1, hc2, _⟩ := id hv
  unfold maxLen at hc2
  obtain ⟨L, hL⟩ : ∃ L, bs.length = L := ⟨_, rfl⟩
  rw [hL] at hv hc1 hB hl
  have HL := Lib.hid hL
  have HV := Lib.hid hv
  have HBk := Lib.hid hB
  have HWh := Lib.hid hw
  have HLe := Lib.hid (Whole.le hv.fit hw)
  have htb : told ≤ 100000000 := by have := HLe.out; have := hL; omega
  clear hL hv hB hw
  go_enter Try.func28, Try.ntmps28
  go_wp2_with fail
  go_loopg [3, 4, 5, 6, 7] told (fun q s3 s4 s5 s6 s7 wr => ∃ k : Nat, k + q = told ∧ s4 = .int .i64 k ∧ s3 = .int .i64 (offs most bs k : Nat) ∧ Hid (Below w.heap.size w wr ∧ RkBlk wr R most (.slice a L c) told over))
  case atStart => exact ⟨0, by omega, rfl, rfl, Lib.hid ⟨Below.refl _ _, HBk.out⟩⟩
  case round =>
    obtain ⟨k, hkq, rfl, rfl, HB⟩ := hrel
    have HKQ := Lib.hid hkq
    have hk : k ≤ told := by omega
    clear hkq
    have HV2 := Lib.hid (HV.out.below HB.out.1)
    have hwk : Whole most bs k := ⟨HWh.out.1, fun i hi => HWh.out.2 i (by omega)⟩
    have hle := (Whole.le HV.out.fit hwk).1
    obtain ⟨m, hm⟩ : ∃ m, offs most bs k = m := ⟨_, rfl⟩
    rw [hm] at hle ⊢
    obtain ⟨vd, hrd, hvd⟩ := HV2.out.from_ Try.sliceR Try.sizeR (m : Int) (by omega) (by omega)
    rw [Int.toNat_natCast] at hvd
    obtain ⟨f0, f1, f2, f3, f4⟩ := RkBlk.cells HB.out.2
    have hml : m ≤ L := by rw [← HL.out]; exact hle
    by_cases hlt : k < told
    · have hz : nextE (bs.drop m) most = 0 := by rw [← hm]; exact HWh.out.2 k hlt
      obtain ⟨F, hF⟩ : ∃ F, F = nextF (bs.drop m) most := ⟨_, rfl⟩
      obtain ⟨n, hn⟩ : ∃ n, n = nextN (bs.drop m) most := ⟨_, rfl⟩
      obtain ⟨e, he⟩ : ∃ e, e = nextE (bs.drop m) most := ⟨_, rfl⟩
      have HFn := Lib.hid (And.intro hF (And.intro hn he))
      have hst := next_step hz (HV.out.fit.drop m)
      rw [List.length_drop, ← hn] at hst
      have HO := Lib.hid (show offs most bs (k + 1) = m + n.toNat from by show offs most bs k + _ = _; rw [hm, hn])
      have HN := Lib.hid (show 9 ≤ n ∧ n ≤ 100000000 ∧ m + n.toNat ≤ 100000000 from by have := HL.out; omega)
      have HVd := Lib.hid hvd
      have HVr := Lib.hid (show ∀ (kl : IntKind) (w1 : World), (Instr.slice 30 (.slice a L c) (some (.int kl (m : Int))) none none).run Try.prog w1 = .ok vd w1 from hrd)
      clear hm hF hn he hst hvd hrd hz hle hwk
      go_wp2_with fail
      clear f0 f1 f2 f3 f4
      refine wp_region_late 16 [17, 18, 19, 20, 21, 22, 23, 24, 25, 26, 27, 16, 28, 29, 30, 5] [[], [(0, 17)], [(1, 18)], [(2, 19)], [], [(3, 20), (4, 21)], [], [(6, 23)], [(7, 24)], [(8, 25)], [(5, 22), (9, 26)], [(10, 27)], [(11, 16)], [(11, 16)], [(11, 16)], []] [13, 14]
        (fun i v w' => match i with
          | 0 => v = .pointer (some ⟨R, 0, none⟩)
          | 1 => v = .pointer (some ⟨R, 0, none⟩)
          | 2 => v = .pointer (some ⟨R, 1, none⟩)
          | 3 => v = .slice a L c
          | 4 => v = .int .i64 m
          | 5 => v = vd
          | 6 => v = .pointer (some ⟨R, 0, none⟩)
          | 7 => v = .pointer (some ⟨R, 0, none⟩)
          | 8 => v = .pointer (some ⟨R, 0, none⟩)
          | 9 => v = .int .i64 most
          | 10 => NxV F n e v w'
          | 11 => NxV F n e v w'
          | 12 => FrP F v w'
          | 13 => v = .int .i64 n
          | 14 => v = .int .i64 e
          | 15 => NewF wr.heap.size v w'
          | _ => True) (by kernel_rfl) (by kernel_rfl) ?tStab ?tOps ?tLate ?tRest
      case tStab =>
        intro i v w3 w4 h hb
        match i, h with
        | 0, h | 1, h | 2, h | 3, h | 4, h | 5, h | 6, h | 7, h | 8, h | 9, h | 13, h | 14, h => exact h
        | 10, h => exact NxV.below h hb
        | 11, h => exact NxV.below h hb
        | 12, h => exact FrP.below h hb
        | 15, h => exact NewF.below h hb
        | i + 16, _ => trivial
      case tOps =>
        simp only [List.take_succ_cons, List.take_zero, opsOk]
        refine ⟨?_, ?_, ?_, ?_, ?_, ?_, ?_, ?_, ?_, ?_, ?_, ?_, ?_, ?_, ?_, ?_, trivial⟩
        · intro ρ w3 hc hf ho hB hj
          have x0 : ρ (.tmp 0) = .pointer (some ⟨R, 0, none⟩) := ho 0 (by decide)
          simp [gives, go_sem, x0, Below.refl]
        · intro ρ w3 hc hf ho hB hj
          have x0 : ρ (.tmp 17) = .pointer (some ⟨R, 0, none⟩) := hj (0, 17) (by simp)
          simp [gives, go_sem, x0, Below.refl]
        · intro ρ w3 hc hf ho hB hj
          have x0 : ρ (.tmp 18) = .pointer (some ⟨R, 0, none⟩) := hj (1, 18) (by simp)
          simp [gives, go_sem, x0, Below.refl]
        · intro ρ w3 hc hf ho hB hj
          have x0 : ρ (.tmp 19) = .pointer (some ⟨R, 1, none⟩) := hj (2, 19) (by simp)
          obtain ⟨f0, f1, f2, f3, f4⟩ := RkBlk.cells (HB.out.2.below hB)
          simp [gives, go_sem, x0, f1, Below.refl]
        · intro ρ w3 hc hf ho hB hj
          have x0 : ρ (.tmp 3) = .int .i64 m := ho 3 (by decide)
          simp [gives, go_sem, x0, Below.refl]
        · intro ρ w3 hc hf ho hB hj
          have x0 : ρ (.tmp 20) = .slice a L c := hj (3, 20) (by simp)
          have x1 : ρ (.tmp 21) = .int .i64 m := hj (4, 21) (by simp)
          have i1 := HVr.out .i64
          simp [gives, go_sem, x0, x1, i1, Below.refl]
        · intro ρ w3 hc hf ho hB hj
          have x0 : ρ (.tmp 0) = .pointer (some ⟨R, 0, none⟩) := ho 0 (by decide)
          simp [gives, go_sem, x0, Below.refl]
        · intro ρ w3 hc hf ho hB hj
          have x0 : ρ (.tmp 23) = .pointer (some ⟨R, 0, none⟩) := hj (6, 23) (by simp)
          simp [gives, go_sem, x0, Below.refl]
        · intro ρ w3 hc hf ho hB hj
          have x0 : ρ (.tmp 24) = .pointer (some ⟨R, 0, none⟩) := hj (7, 24) (by simp)
          simp [gives, go_sem, x0, Below.refl]
        · intro ρ w3 hc hf ho hB hj
          have x0 : ρ (.tmp 25) = .pointer (some ⟨R, 0, none⟩) := hj (8, 25) (by simp)
          obtain ⟨f0, f1, f2, f3, f4⟩ := RkBlk.cells (HB.out.2.below hB)
          simp [gives, go_sem, x0, f0, Below.refl]
        · intro ρ w3 hc hf ho hB hj
          have x0 : ρ (.tmp 22) = vd := hj (5, 22) (by simp)
          have x1 : ρ (.tmp 26) = .int .i64 most := hj (9, 26) (by simp)
          simp [gives, go_sem, x0, x1, hf]
          have hcc := refNext_nx vd (bs.drop m) most w3 (HVd.out.below hB)
          rw [← HFn.out.1, ← HFn.out.2.1, ← HFn.out.2.2] at hcc
          exact hcc
        · intro ρ w3 hc hf ho hB hj
          have x0 : NxV F n e (ρ (.tmp 27)) w3 := hj (10, 27) (by simp)
          obtain ⟨ap, cp, x0, hs0⟩ := x0
          simp [gives, go_sem, x0]
          exact ⟨⟨ap, cp, rfl, hs0⟩, Below.refl _ _⟩
        · intro ρ w3 hc hf ho hB hj
          have x0 : NxV F n e (ρ (.tmp 16)) w3 := hj (11, 16) (by simp)
          obtain ⟨ap, cp, x0, hs0⟩ := x0
          simp [gives, go_sem, x0]
          exact ⟨⟨ap, cp, rfl, hs0⟩, Below.refl _ _⟩
        · intro ρ w3 hc hf ho hB hj
          have x0 : NxV F n e (ρ (.tmp 16)) w3 := hj (11, 16) (by simp)
          obtain ⟨ap, cp, x0, hs0⟩ := x0
          simp [gives, go_sem, x0, Below.refl]
        · intro ρ w3 hc hf ho hB hj
          have x0 : NxV F n e (ρ (.tmp 16)) w3 := hj (11, 16) (by simp)
          obtain ⟨ap, cp, x0, hs0⟩ := x0
          simp [gives, go_sem, x0, Below.refl]
        · intro ρ w3 hc hf ho hB hj
          simp [gives, go_sem]
          exact ⟨⟨_, rfl, hB.size, by simp, heap_alloc_new _ _⟩, (Below.refl _ _).alloc (Nat.le_refl _) _⟩
      case tLate =>
        intro i hi _ o ho
        simp only [List.mem_cons, List.not_mem_nil, or_false] at hi
        rcases hi with rfl | rfl
        · obtain rfl := Option.some.inj ho
          intro ρ w3 hc _ _ hj
          obtain ⟨ap, cp, x0, _⟩ := hj (11, 16) (by simp)
          exact ⟨_, fun w' => by simp [go_sem, x0], rfl⟩
        · obtain rfl := Option.some.inj ho
          intro ρ w3 hc _ _ hj
          obtain ⟨ap, cp, x0, _⟩ := hj (11, 16) (by simp)
          exact ⟨_, fun w' => by simp [go_sem, x0], rfl⟩
      case tRest =>
        intro X w3 hBw hX
        have x0 : X 0 = .pointer (some ⟨R, 0, none⟩) := hX 0 (by decide)
        have x1 : X 1 = .pointer (some ⟨R, 0, none⟩) := hX 1 (by decide)
        have x2 : X 2 = .pointer (some ⟨R, 1, none⟩) := hX 2 (by decide)
        have x3 : X 3 = .slice a L c := hX 3 (by decide)
        have x4 : X 4 = .int .i64 m := hX 4 (by decide)
        have x5 : X 5 = vd := hX 5 (by decide)
        have x6 : X 6 = .pointer (some ⟨R, 0, none⟩) := hX 6 (by decide)
        have x7 : X 7 = .pointer (some ⟨R, 0, none⟩) := hX 7 (by decide)
        have x8 : X 8 = .pointer (some ⟨R, 0, none⟩) := hX 8 (by decide)
        have x9 : X 9 = .int .i64 most := hX 9 (by decide)
        have x10 := hX 10 (by decide)
        have x11 := hX 11 (by decide)
        have x12 := hX 12 (by decide)
        have x13 : X 13 = .int .i64 n := hX 13 (by decide)
        have x14 : X 14 = .int .i64 e := hX 14 (by decide)
        have x15 := hX 15 (by decide)
        simp only [putAll, List.getD_cons_zero, List.getD_cons_succ, Act.put, List.setIfInBounds_toArray, List.set_cons_zero, List.set_cons_succ, List.drop_succ_cons, List.drop_zero]
        rw [x0, x1, x2, x3, x4, x5, x6, x7, x8, x9, x13, x14]
        obtain ⟨ap, cp, e10, _⟩ := x10
        obtain ⟨ap1, cp1, e11, _⟩ := x11
        obtain ⟨ap2, cp2, e12, hs12⟩ := x12
        obtain ⟨C, e15, hC1, hC2, hC3⟩ := x15
        rw [e10, e11, e12, e15]
        have HC := Lib.hid hC3
        have HB5 := Lib.hid (show Below w.heap.size w (w3.setRow C #[.int .i64 F.kind, .int .i64 F.flags, .int .i64 F.stream, .slice ap2 F.pay.length cp2]) ∧ RkBlk (w3.setRow C #[.int .i64 F.kind, .int .i64 F.flags, .int .i64 F.stream, .slice ap2 F.pay.length cp2]) R most (.slice a L c) told over from by
          have hbb := below_setRow hBw hC1 #[.int .i64 F.kind, .int .i64 F.flags, .int .i64 F.stream, .slice ap2 F.pay.length cp2]
          exact ⟨HB.out.1.trans (hbb.mono HB.out.1.size), HB.out.2.below hbb⟩)
        clear x0 x1 x2 x3 x4 x5 x6 x7 x8 x9 e10 e11 e12 x13 x14 e15 hC1 hC2 hC3 hBw hX hs12
        go_wp2_with (refine store_fr13 rfl (.tmp 5) (.tmp 28) rfl C F ap2 F.pay.length cp2 _ rfl rfl HC.out rfl ?_)
        refine Calm.intro ?_
        have hn1 := HN.out.1
        have hn2 := HN.out.2.1
        go_wp2_with fail
        go_roundg (told - (k + 1))
        case measure => have := HKQ.out; omega
        case rel => exact ⟨k + 1, by omega, by go_num, by rw [HO.out]; have := HN.out.1; go_num, HB5⟩
    · obtain rfl : k = told := by omega
      have HVd := Lib.hid hvd
      clear hlt hk hvd hle hwk
      go_wp2_with fail
      go_ret
      exact ⟨_, rfl, by rw [hm]; exact HVd.out, HB.out.1⟩

/-- the reference's intake, with at most so many bytes in all -/
def RkAt (W : World) (R : Nat) (Q : Option Nat) (N : Nat) (s : Ik) : Prop := ∃ bv bs told, RkBlk W R s.most bv told s.over ∧ Sl .u8 W bv bs ∧ RkRel s bs told ∧ bs.length ≤ N ∧ bv.ownBlock = Q
theorem RkAt.below {W W' : World} {R N : Nat} {Q : Option Nat} {s : Ik} (h : RkAt W R Q N s) (hb : Below W.heap.size W W') : RkAt W' R Q N s := by
  obtain ⟨bv, bs, told, h1, h2, h3, h4, h5⟩ := h; exact ⟨bv, bs, told, h1.below hb, h2.below hb, h3, h4, h5⟩
theorem RkAt.lt {W : World} {R N : Nat} {Q : Option Nat} {s : Ik} (h : RkAt W R Q N s) : R < W.heap.size := by obtain ⟨bv, bs, told, h1, _⟩ := h; exact h1.lt
theorem RkRel.told_le {s : Ik} {bs : List Int} {told : Nat} (h : RkRel s bs told) (hf : Fit .u8 bs) (ho : s.over = 0) : told ≤ bs.length := by
  rcases h with ⟨_, _, _, _, _, h⟩ | ⟨_, _, _, h, _⟩ | ⟨h, _⟩ | ⟨h, _⟩
  · omega
  · have := Whole.le hf h; omega
  · rw [h] at ho; cases ho
  · rw [h] at ho; cases ho
theorem RkRel.next {s : Ik} {bs : List Int} {told : Nat} (h : RkRel s bs told) (ho : s.over = 0) (hb : 24 ≤ bs.length) :
    s.begun = true ∧ Whole s.most bs told ∧ s.got = bs.drop (offs s.most bs told) ∧
    (nextE s.got s.most = 0 → RkRel (nextIS s) bs (told + 1) ∧ (nextIS s).over = 0) ∧ (nextE s.got s.most = 4 → RkRel (nextIS s) bs told ∧ (nextIS s).over = 4) ∧ (nextE s.got s.most = 2 → nextIS s = s) := by
  rcases h with ⟨_, _, _, h, _⟩ | ⟨h1, h2, h3, h4, h5⟩ | ⟨h, _⟩ | ⟨h, _⟩
  · omega
  · refine ⟨h3, h4, h5, fun he => ?_, fun he => ?_, fun he => ?_⟩
    · unfold nextIS
      rw [if_neg (by simp [ho]), if_neg (by simp [h3]), if_pos he]
      refine ⟨.inr (.inl ⟨ho, h2, h3, ⟨h4.1, fun i hi => ?_⟩, ?_⟩), ho⟩
      · by_cases hik : i = told
        · subst hik; rw [← h5]; exact he
        · exact h4.2 i (by omega)
      · show s.got.drop _ = bs.drop (offs s.most bs told + _)
        rw [h5, List.drop_drop]
    · unfold nextIS
      rw [if_neg (by simp [ho]), if_neg (by simp [h3]), if_neg (by rw [he]; decide), if_pos he]
      exact ⟨.inr (.inr (.inr ⟨rfl, h2, h4.1, rfl, rfl⟩)), rfl⟩
    · unfold nextIS
      rw [if_neg (by simp [ho]), if_neg (by simp [h3]), if_neg (by rw [he]; decide), if_neg (by rw [he]; decide)]
  · rw [h] at ho; cases ho
  · rw [h] at ho; cases ho
theorem nextIS_most (s : Ik) : (nextIS s).most = s.most := by
  unfold nextIS
  split; rfl
  split; rfl
  split; rfl
  split <;> rfl
theorem RkRel.shape {s : Ik} {bs : List Int} {told : Nat} (h : RkRel s bs told) : (s.over ≠ 0 → s.got = []) ∧ (s.over = 0 → bs.length < 24 → s.got = bs ∧ s.begun = false) ∧ s.begun = (decide (24 ≤ bs.length) && !wrongL bs) := by
  rcases h with ⟨h1, h2, h3, h4, h5, h6⟩ | ⟨h1, h2, h3, h4, h5⟩ | ⟨h1, h2, h3, h4⟩ | ⟨h1, h2, h3, h4, h5⟩
  · refine ⟨fun h => absurd h1 h, fun _ _ => ⟨h5, h3⟩, ?_⟩
    rw [h3, decide_eq_false (by omega)]; rfl
  · refine ⟨fun h => absurd h1 h, fun _ h => absurd h (by have := h4.1; omega), ?_⟩
    rw [h3, decide_eq_true h4.1, h2]; rfl
  · refine ⟨fun _ => h4, fun h => (by rw [h1] at h; cases h), ?_⟩
    rw [h3, h2]; simp
  · refine ⟨fun _ => h5, fun h => (by rw [h1] at h; cases h), ?_⟩
    rw [h4, decide_eq_true h3, h2]; rfl

theorem refBegin_any (most : Int) (w : World) : Calls Try.prog 7 #[.int .i64 most] w fun e w' => e = .returned (.pointer (some ⟨w.heap.size, 0, none⟩)) ∧ RkAt w' w.heap.size none 0 (Ik.new most) ∧ Below w.heap.size w w' := by
  go_enter Try.func7, Try.ntmps7
  go_wp2_with fail
  go_ret
  exact ⟨rfl, ⟨.slice none 0 0, [], 0, heap_alloc_new _ _, Sl.nil _ _, .inl ⟨rfl, rfl, rfl, by decide, rfl, rfl⟩, Nat.le_refl _, rfl⟩, (Below.refl _ _).alloc (Nat.le_refl _) _⟩

set_option maxHeartbeats 1000000 in
theorem refBegun_any (R N : Nat) (Q : Option Nat) (s : Ik) (w : World) (h : RkAt w R Q N s) :
    Calls Try.prog 14 #[.pointer (some ⟨R, 0, none⟩)] w fun e w' => e = .returned (.bool s.begun) ∧ Below w.heap.size w w' := by
  obtain ⟨bv, bs, told, hb, hs, hr, hn, hq⟩ := h
  have HE := Lib.hid (RkRel.shape hr).2.2
  obtain ⟨a, c, rfl, _⟩ := id hs
  have HBk := Lib.hid hb
  have HS := Lib.hid hs
  clear hr hn hb
  go_enter Try.func14, Try.ntmps14
  go_wp2_with fail
  refine (refWrong_any R _ _ told _ bs w HBk.out HS.out).mono ?_
  rintro e w1 ⟨rfl, hb1⟩
  have HB1 := Lib.hid hb1
  obtain ⟨f0, f1, f2, f3, f4⟩ := RkBlk.cells (HBk.out.below hb1)
  obtain ⟨q, hq⟩ : ∃ q, wrongL bs = q := ⟨_, rfl⟩
  rw [hq] at HE ⊢
  clear hb1 hq hs
  by_cases hl : 24 ≤ bs.length
  · have d0 : decide ((24 : Int) ≤ (bs.length : Int)) = true := decide_eq_true (by omega)
    rw [decide_eq_true hl] at HE
    clear hl
    go_wp2_with fail
    go_ret
    exact ⟨by rw [HE.out]; rfl, HB1.out⟩
  · have d0 : decide ((24 : Int) ≤ (bs.length : Int)) = false := decide_eq_false (by omega)
    rw [decide_eq_false hl] at HE
    clear hl
    go_wp2_with fail
    go_ret
    exact ⟨by rw [HE.out]; rfl, HB1.out⟩

set_option maxHeartbeats 1000000 in
theorem refLen13_any (R N : Nat) (Q : Option Nat) (s : Ik) (w : World) (h : RkAt w R Q N s) (hN : N ≤ 100000000) :
    Calls Try.prog 16 #[.pointer (some ⟨R, 0, none⟩)] w fun e w' => e = .returned (.int .i64 (s.got.length : Nat)) ∧ Below w.heap.size w w' := by
  obtain ⟨bv, bs, told, hb, hs, hr, hn, hq⟩ := h
  obtain ⟨a, c, rfl, _⟩ := id hs
  obtain ⟨h1, h2, _⟩ := RkRel.shape hr
  obtain ⟨f0, f1, f2, f3, f4⟩ := RkBlk.cells hb
  by_cases ho : s.over = 0
  · have d0 : (s.over != 0) = false := by simpa using ho
    by_cases hl : bs.length < 24
    · have d1 : decide ((bs.length : Int) < 24) = true := decide_eq_true (by omega)
      have HE := Lib.hid (h2 ho hl).1
      clear h1 h2 hr hl ho hn hN
      go_enter Try.func16, Try.ntmps16
      go_wp2_with fail
      go_ret
      exact ⟨by rw [HE.out]; rfl, Below.refl _ _⟩
    · have d1 : decide ((bs.length : Int) < 24) = false := decide_eq_false (by omega)
      obtain ⟨_, h4, h5, _⟩ := RkRel.next hr ho (by omega)
      have HR := Lib.hid (And.intro hb (And.intro hs (And.intro h4 (And.intro h5 (show bs.length ≤ 100000000 by omega)))))
      clear h1 h2 hr hl ho hn hN hb hs h4 h5
      go_enter Try.func16, Try.ntmps16
      go_wp2_with fail
      refine (refRest_any R _ _ told _ bs w HR.out.1 HR.out.2.1 HR.out.2.2.1 HR.out.2.2.2.2).mono ?_
      rintro e w1 ⟨v, rfl, hv, hb1⟩
      have HB1 := Lib.hid hb1
      obtain ⟨av, cv, rfl, _⟩ := id hv
      rw [← HR.out.2.2.2.1]
      clear hv hb1
      go_wp2_with fail
      go_ret
      exact ⟨rfl, HB1.out⟩
  · have d0 : (s.over != 0) = true := by simpa using ho
    have HE := Lib.hid (h1 ho)
    clear h1 h2 hr ho hn hN
    go_enter Try.func16, Try.ntmps16
    go_wp2_with fail
    go_ret
    exact ⟨by rw [HE.out]; rfl, Below.refl _ _⟩
end Go.Proofs.Ytappehjcbjplaaa
