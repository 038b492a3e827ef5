
/-
  Layer 11's reference: Same (of two that say the same).
-/
import Derived.Test.YtohghphegcnfkaaProg
import Derived.Test.YtohghphegcnfkaaPayMath
import Derived.Test.YtohghphegcnfkaaSame
import Derived.Test.YtohghphegcnfkaaOwn
import Derived.Test.YtohghphegcnfkaaBuilds
import Derived.Laws.StructEq
import Derived.Deep.LoopGhost
namespace Go.Proofs.Ytohghphegcnfkaa
set_option maxRecDepth 20000
open Go.RowKit

theorem pr_eql (a b : Int) (w : World) : (binOp .eql 52 (.agg #[.int .i64 a, .int .i64 b]) (.agg #[.int .i64 a, .int .i64 b])).run Try.prog w = .ok (.bool true) w := by
  rw [run_eql_struct, run_equalIn_agg w 9999 52 _ _ (show Try.prog.underlying 52 = some (.struct (Try.prog.fieldsOf 52)) by kernel_rfl) (show Try.prog.stoodInHeld 52 = false by kernel_rfl)]
  have hf : ((Try.prog.fieldsOf 52).toList.map fun f => (f.name, f.type, f.offset)) = [("ID", 3, 0), ("Value", 3, 1)] := by kernel_rfl
  have p0 : ∀ (x y : Int) w, (part 3 #[.int .i64 x, .int .i64 y] 0).run Try.prog w = .ok (.int .i64 x) w := fun x y w => by kernel_rfl
  have p1 : ∀ (x y : Int) w, (part 3 #[.int .i64 x, .int .i64 y] 1).run Try.prog w = .ok (.int .i64 y) w := fun x y w => by kernel_rfl
  cases hq : (Try.prog.fieldsOf 52).toList with
  | nil => rw [hq] at hf; simp at hf
  | cons f l =>
    rw [hq] at hf
    cases l with
    | nil => simp at hf
    | cons g m =>
      cases m with
      | cons _ _ => simp at hf
      | nil =>
        simp only [List.map_cons, List.map_nil, List.cons.injEq, Prod.mk.injEq, and_true] at hf
        obtain ⟨⟨f1, f2, f3⟩, g1, g2, g3⟩ := hf
        have ne1 : ("ID" : String) ≠ "_" := by decide
        have ne2 : ("Value" : String) ≠ "_" := by decide
        simp [Op.eqFields, f1, f2, f3, g1, g2, g3, ne1, ne2, Sem.run_bind, p0, p1, Result.andThen, run_equalIn_int w 9998 3 _ _ _ _ Try.underlying3]
def ptC (bv pv : Value) (p : Pt) : Array Value := #[bv, pv, .int .i64 p.code, .int .i64 p.last, .int .i64 p.add, .int .i64 p.flow, .bool p.fin, .bool p.whole, .bool p.acked]
/-- the block g holds that -/
def PtsAt (W : World) (t : TypeId) (g : Nat) (bv pv : Value) (p : Pt) : Prop := W.heap[g]? = some (.cells (ptC bv pv p) t (0, 0))
theorem PtsAt.new (w : World) (t : TypeId) (bv pv : Value) (p : Pt) : PtsAt (w.alloc (.cells (ptC bv pv p) t)) t w.heap.size bv pv p := heap_alloc_new w _
theorem PtsAt.lt {W : World} {t : TypeId} {g : Nat} {bv pv : Value} {p : Pt} (h : PtsAt W t g bv pv p) : g < W.heap.size := (Array.getElem?_eq_some_iff.1 h).1
theorem PtsAt.grown {W W' : World} {t : TypeId} {g : Nat} {bv pv : Value} {p : Pt} (h : PtsAt W t g bv pv p) (hb : Below W.heap.size W W') : PtsAt W' t g bv pv p := (hb.block g h.lt).trans h
theorem PtsAt.cs {W : World} {t : TypeId} {g : Nat} {bv pv : Value} {p : Pt} (h : PtsAt W t g bv pv p) :
    W.cell? ⟨g, 0, none⟩ = some bv ∧ W.cell? ⟨g, 1, none⟩ = some pv ∧ W.cell? ⟨g, 2, none⟩ = some (.int .i64 p.code) ∧ W.cell? ⟨g, 3, none⟩ = some (.int .i64 p.last) ∧ W.cell? ⟨g, 4, none⟩ = some (.int .i64 p.add) ∧
    W.cell? ⟨g, 5, none⟩ = some (.int .i64 p.flow) ∧ W.cell? ⟨g, 6, none⟩ = some (.bool p.fin) ∧ W.cell? ⟨g, 7, none⟩ = some (.bool p.whole) ∧ W.cell? ⟨g, 8, none⟩ = some (.bool p.acked) := by
  unfold PtsAt ptC at h
  simp [World.cell?, h]
/-- two that lie there, and say the same -/
structure Two11 (w : World) (g1 g2 : Nat) (bu bv pu pv : Value) (p : Pt) (W : World) : Prop where
  u : PtsAt W 38 g1 bu pu p
  v : PtsAt W 38 g2 bv pv p
  pu : SlP W pu p.pairs
  pv : SlP W pv p.pairs
  b : Below w.heap.size w W
theorem Two11.grown {w W W' : World} {g1 g2 : Nat} {bu bv pu pv : Value} {p : Pt} (h : Two11 w g1 g2 bu bv pu pv p W) (hb : Below W.heap.size W W') : Two11 w g1 g2 bu bv pu pv p W' :=
  ⟨h.u.grown hb, h.v.grown hb, h.pu.below hb, h.pv.below hb, h.b.trans (hb.mono h.b.size)⟩
set_option maxHeartbeats 4000000 in
theorem refSame11_eq (u v : Value) (p : Pt) (w : World) (hu : PtV w u p) (hv : PtV w v p) :
    Calls Try.prog 6 #[u, v] w fun e w' => e = .returned (.bool true) ∧ Below w.heap.size w w' := by
  obtain ⟨bu, pu, rfl, hbu, hpu⟩ := hu
  obtain ⟨bv, pv, rfl, hbv, hpv⟩ := hv
  have hal := (Below.refl w.heap.size w).alloc (Nat.le_refl _) (.cells (ptC bu pu p) 38)
  have hal2 := (Below.refl (w.alloc (.cells (ptC bu pu p) 38)).heap.size (w.alloc (.cells (ptC bu pu p) 38))).alloc (Nat.le_refl _) (.cells (ptC bv pv p) 38)
  have HB := Lib.hid (hal.trans (hal2.mono hal.size))
  have HU := Lib.hid (((PtsAt.new w 38 bu pu p).grown hal2))
  have HV := Lib.hid (PtsAt.new (w.alloc (.cells (ptC bu pu p) 38)) 38 bv pv p)
  have H1 := Lib.hid (hbu.below HB.out)
  have H2 := Lib.hid (hbv.below HB.out)
  have P1 := Lib.hid (hpu.below HB.out)
  have P2 := Lib.hid (hpv.below HB.out)
  obtain ⟨a1, k1, rfl, hc1, hc2⟩ := hpu.shape
  obtain ⟨a2, k2, rfl, hc3, hc4⟩ := hpv.shape
  have HT : Hid (Two11 w w.heap.size (w.heap.size + 1) bu bv (.slice a1 p.pairs.length k1) (.slice a2 p.pairs.length k2) p ((w.alloc (.cells (ptC bu (.slice a1 p.pairs.length k1) p) 38)).alloc (.cells (ptC bv (.slice a2 p.pairs.length k2) p) 38))) :=
    Lib.hid ⟨HU.out, by have := HV.out; simpa using this, P1.out, P2.out, HB.out⟩
  clear hal hal2 hbu hbv hpu hpv HU HV P1 P2 HB
  unfold maxLen at hc2 hc4
  obtain ⟨N, hN⟩ : ∃ N, N = p.pairs.length := ⟨_, rfl⟩
  rw [← hN] at HT H1 H2 hc1 hc3 ⊢
  have HN := Lib.hid hN
  clear hN
  obtain ⟨c0, c1, c2, c3, c4, c5, c6, c7, c8⟩ := HT.out.u.cs
  obtain ⟨d0, d1, d2, d3, d4, d5, d6, d7, d8⟩ := HT.out.v.cs
  have s1 := HT.out.u.lt
  have s2 := HT.out.v.lt
  unfold ptC at c0 c1 c2 c3 c4 c5 c6 c7 c8 d0 d1 d2 d3 d4 d5 d6 d7 d8 s1 s2 H1 H2 HT
  have HG := Lib.hid (fun n => HT.out.grown (below_drewN (Below.refl _ _) n))
  go_enter Try.func6, Try.ntmps6
  go_wp2_with fail
  refine (same_any bu bv p.bytes p.bytes _ H1.out H2.out).mono ?_
  rintro e w1 ⟨rfl, n, hw⟩
  have hx := HG.out n
  rw [← hw] at hx
  have HT1 := Lib.hid hx
  rw [decide_eq_true (rfl : p.bytes = p.bytes)]
  clear hx hw HG c0 c1 c2 c3 c4 c5 c6 c7 c8 d0 d1 d2 d3 d4 d5 d6 d7 d8 s1 s2 H1 H2 HT n
  obtain ⟨c0, c1, c2, c3, c4, c5, c6, c7, c8⟩ := HT1.out.u.cs
  obtain ⟨d0, d1, d2, d3, d4, d5, d6, d7, d8⟩ := HT1.out.v.cs
  have s1 := HT1.out.u.lt
  have s2 := HT1.out.v.lt
  go_wp2_with fail
  clear c0 c1 c2 c3 c4 c5 c6 c7 c8 d0 d1 d2 d3 d4 d5 d6 d7 d8 s1 s2
  go_loopg [6] N (fun q s6 wr => ∃ k : Nat, k + q = N ∧ s6 = .int .i64 k ∧ Hid (Two11 w w.heap.size (w.heap.size + 1) bu bv (.slice a1 N k1) (.slice a2 N k2) p wr))
  case atStart => exact ⟨0, by omega, rfl, HT1⟩
  case round =>
    obtain ⟨k, hkq, rfl, HT2⟩ := hrel
    have HKQ := Lib.hid hkq
    have hk : k ≤ N := by omega
    clear hkq HT1
    obtain ⟨c0, c1, c2, c3, c4, c5, c6, c7, c8⟩ := HT2.out.u.cs
    obtain ⟨d0, d1, d2, d3, d4, d5, d6, d7, d8⟩ := HT2.out.v.cs
    have s1 := HT2.out.u.lt
    have s2 := HT2.out.v.lt
    by_cases hlt : k < N
    · obtain ⟨x, hx⟩ := pr_at (ps := p.pairs) (k := k) (by rw [← HN.out]; exact hlt)
      obtain ⟨b1, o1, rfl, hb1, hc1⟩ := HT2.out.pu.at_ (i := k) (by rw [← HN.out]; exact hlt)
      obtain ⟨b2, o2, rfl, hb2, hc2⟩ := HT2.out.pv.at_ (i := k) (by rw [← HN.out]; exact hlt)
      obtain ⟨x0, x1⟩ := hc1 x hx
      obtain ⟨y0, y1⟩ := hc2 x hx
      have i1 := run_index_sl (P := Try.prog) (t := 36) (s := 2) (by kernel_rfl) (fun _ => by kernel_rfl) b1 o1 N k1 k hlt
      have i2 := run_index_sl (P := Try.prog) (t := 36) (s := 2) (by kernel_rfl) (fun _ => by kernel_rfl) b2 o2 N k2 k hlt
      have hq := pr_eql x.1 x.2
      clear hc1 hc2 hx
      go_wp2_with fail
      go_quiet (fail)
      go_wp2_with fail
      go_roundg (N - (k + 1))
      case measure => have := HKQ.out; omega
      case rel => exact ⟨k + 1, by omega, by go_num, HT2.out.grown (below_drewN (Below.refl _ _) _)⟩
    · obtain rfl : k = N := by omega
      have q1 : (p.code == p.code) = true := beq_self_eq_true _
      have q2 : (p.last == p.last) = true := beq_self_eq_true _
      have q3 : (p.add == p.add) = true := beq_self_eq_true _
      have q4 : (p.flow == p.flow) = true := beq_self_eq_true _
      have q5 : (p.fin == p.fin) = true := beq_self_eq_true _
      have q6 : (p.whole == p.whole) = true := beq_self_eq_true _
      have q7 : (p.acked == p.acked) = true := beq_self_eq_true _
      clear hlt hk
      go_wp2_with fail
      go_ret
      exact ⟨rfl, HT2.out.b⟩
end Go.Proofs.Ytohghphegcnfkaa
