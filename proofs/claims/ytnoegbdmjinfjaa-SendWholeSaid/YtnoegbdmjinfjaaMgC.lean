/-
  Several texts of mine, one behind the other: SndRef7, FrStore, SndFrame, SndRef8, SndRef9, SndRef10, SndRef11.
-/
import Derived.Test.YtnoegbdmjinfjaaMgB
import Derived.Test.YtnoegbdmjinfjaaProg
import Derived.OpenShut
import Derived.Deep.WholeRow

/-
  Layer 20's reference: the sender, Head where it ends by an error, Data (written by wip/tools/gen20d.py).
-/
namespace Go.Proofs.Ytnoegbdmjinfjaa
set_option maxRecDepth 20000
open Go.RowKit

theorem rhead20_none (R : Nat) (lv : Value) (ys : List SmV) (q : Sd) (id : Int) (bv : Value) (last : Bool) (w : World) (h : RsObj w R lv ys q) (hno : q.l.any (hasId id) = false) :
    Calls Try.prog 30 #[.pointer (some ⟨R, 0, none⟩), .int .i64 id, bv, .bool last] w fun e w' => e = .returned (.int .i64 5) ∧ w' = w := by
  have HR := Lib.hid h
  have HAt := Lib.hid (at20_no hno)
  clear h hno
  go_enter Try.func30, Try.ntmps30
  go_wp2_with fail
  refine (rat20_any R _ ys q id w HR.out).mono ?_
  rintro e w1 ⟨rfl, e0⟩
  have e1 := e0.symm
  clear e0
  subst e1
  rw [HAt.out]
  go_wp2_with fail
  go_ret
  exact ⟨rfl, rfl⟩
theorem rdata20_none (R : Nat) (lv : Value) (ys : List SmV) (q : Sd) (id : Int) (bv : Value) (last : Bool) (w : World) (h : RsObj w R lv ys q) (hno : q.l.any (hasId id) = false) :
    Calls Try.prog 31 #[.pointer (some ⟨R, 0, none⟩), .int .i64 id, bv, .bool last] w fun e w' => e = .returned (.int .i64 5) ∧ w' = w := by
  have HR := Lib.hid h
  have HAt := Lib.hid (at20_no hno)
  clear h hno
  go_enter Try.func31, Try.ntmps31
  go_wp2_with fail
  refine (rat20_any R _ ys q id w HR.out).mono ?_
  rintro e w1 ⟨rfl, e0⟩
  have e1 := e0.symm
  clear e0
  subst e1
  rw [HAt.out]
  go_wp2_with fail
  go_ret
  exact ⟨rfl, rfl⟩
theorem rdrop20_none (R : Nat) (lv : Value) (ys : List SmV) (q : Sd) (id : Int) (w : World) (h : RsObj w R lv ys q) (hno : q.l.any (hasId id) = false) :
    Calls Try.prog 34 #[.pointer (some ⟨R, 0, none⟩), .int .i64 id] w fun e w' => e = .returned (.int .i64 5) ∧ w' = w := by
  have HR := Lib.hid h
  have HAt := Lib.hid (at20_no hno)
  clear h hno
  go_enter Try.func34, Try.ntmps34
  go_wp2_with fail
  refine (rat20_any R _ ys q id w HR.out).mono ?_
  rintro e w1 ⟨rfl, e0⟩
  have e1 := e0.symm
  clear e0
  subst e1
  rw [HAt.out]
  go_wp2_with fail
  go_ret
  exact ⟨rfl, rfl⟩
theorem rhead20_said (R : Nat) (lv : Value) (ys : List SmV) (q : Sd) (id : Int) (bv : Value) (last : Bool) (k : Nat) (y : SmV) (w : World) (h : RsObj w R lv ys q) (hat : at20 q.l id = k) (hy : ys[k]? = some y) (hs : y.x.said = true) :
    Calls Try.prog 30 #[.pointer (some ⟨R, 0, none⟩), .int .i64 id, bv, .bool last] w fun e w' => e = .returned (.int .i64 6) ∧ w' = w := by
  obtain ⟨g, c, elv, hk, hc1, hc2, hgR, hgl, hfr, hcell⟩ := h.shape hy
  unfold maxLen at hc2
  have HR := Lib.hid (show RsObj w R (.slice (some ⟨g, 0, none⟩) ys.length c) ys q from elv ▸ h)
  subst elv
  have HAt := Lib.hid hat
  have HY := Lib.hid hy
  have c4 := hcell 4 (by decide)
  have c5 := hcell 5 (by decide)
  simp only [smC, List.getElem?_cons_succ, List.getElem?_cons_zero] at c4 c5
  obtain ⟨f0, f1, f2⟩ := HR.out.blk.cells
  obtain ⟨N, hN⟩ : ∃ N, ys.length = N := ⟨_, rfl⟩
  have HN := Lib.hid hN
  rw [hN] at f1 hk hc1
  have dk : decide ((k : Int) < 0) = false := decide_eq_false (by omega)
  rw [hs] at c4
  clear hcell hfr h hat hy hN hs c5
  go_enter Try.func30, Try.ntmps30
  go_wp2_with fail
  refine (rat20_any R _ ys q id w HR.out).mono ?_
  rintro e w1 ⟨rfl, e0⟩
  have e1 := e0.symm
  clear e0
  subst e1
  rw [HAt.out]
  go_wp2_with fail
  go_ret
  exact ⟨rfl, rfl⟩
theorem rhead20_long (R : Nat) (lv : Value) (ys : List SmV) (q : Sd) (id : Int) (bv : Value) (zs : List Int) (last : Bool) (k : Nat) (y : SmV) (w : World) (h : RsObj w R lv ys q) (hat : at20 q.l id = k) (hy : ys[k]? = some y) (hs : y.x.said = false) (hb : Sl .u8 w bv zs) (hz : 16384 < zs.length) :
    Calls Try.prog 30 #[.pointer (some ⟨R, 0, none⟩), .int .i64 id, bv, .bool last] w fun e w' => e = .returned (.int .i64 1) ∧ w' = w := by
  obtain ⟨g, c, elv, hk, hc1, hc2, hgR, hgl, hfr, hcell⟩ := h.shape hy
  unfold maxLen at hc2
  have HR := Lib.hid (show RsObj w R (.slice (some ⟨g, 0, none⟩) ys.length c) ys q from elv ▸ h)
  subst elv
  have HAt := Lib.hid hat
  have HY := Lib.hid hy
  have c4 := hcell 4 (by decide)
  have c5 := hcell 5 (by decide)
  simp only [smC, List.getElem?_cons_succ, List.getElem?_cons_zero] at c4 c5
  obtain ⟨f0, f1, f2⟩ := HR.out.blk.cells
  obtain ⟨N, hN⟩ : ∃ N, ys.length = N := ⟨_, rfl⟩
  have HN := Lib.hid hN
  rw [hN] at f1 hk hc1
  have dk : decide ((k : Int) < 0) = false := decide_eq_false (by omega)
  rw [hs] at c4
  obtain ⟨ab, cb, rfl, _⟩ := hb
  have dz : decide ((16384 : Int) < (zs.length : Int)) = true := decide_eq_true (by omega)
  have dz' : decide (16384 < zs.length) = true := decide_eq_true hz
  clear hcell hfr h hat hy hN hs c5 hz
  go_enter Try.func30, Try.ntmps30
  go_wp2_with fail
  refine (rat20_any R _ ys q id w HR.out).mono ?_
  rintro e w1 ⟨rfl, e0⟩
  have e1 := e0.symm
  clear e0
  subst e1
  rw [HAt.out]
  go_wp2_with fail
  go_ret
  exact ⟨rfl, rfl⟩
theorem rdata20_state (R : Nat) (lv : Value) (ys : List SmV) (q : Sd) (id : Int) (bv : Value) (last : Bool) (k : Nat) (y : SmV) (w : World) (h : RsObj w R lv ys q) (hat : at20 q.l id = k) (hy : ys[k]? = some y) (hs : ¬ (y.x.said = true ∧ y.x.fin = false)) :
    Calls Try.prog 31 #[.pointer (some ⟨R, 0, none⟩), .int .i64 id, bv, .bool last] w fun e w' => e = .returned (.int .i64 6) ∧ w' = w := by
  obtain ⟨g, c, elv, hk, hc1, hc2, hgR, hgl, hfr, hcell⟩ := h.shape hy
  unfold maxLen at hc2
  have HR := Lib.hid (show RsObj w R (.slice (some ⟨g, 0, none⟩) ys.length c) ys q from elv ▸ h)
  subst elv
  have HAt := Lib.hid hat
  have HY := Lib.hid hy
  have c4 := hcell 4 (by decide)
  have c5 := hcell 5 (by decide)
  simp only [smC, List.getElem?_cons_succ, List.getElem?_cons_zero] at c4 c5
  obtain ⟨f0, f1, f2⟩ := HR.out.blk.cells
  obtain ⟨N, hN⟩ : ∃ N, ys.length = N := ⟨_, rfl⟩
  have HN := Lib.hid hN
  rw [hN] at f1 hk hc1
  have dk : decide ((k : Int) < 0) = false := decide_eq_false (by omega)
  obtain ⟨sd, hsd⟩ : ∃ sd, y.x.said = sd := ⟨_, rfl⟩
  obtain ⟨fi, hfi⟩ : ∃ fi, y.x.fin = fi := ⟨_, rfl⟩
  rw [hsd, hfi] at hs
  rw [hsd] at c4
  rw [hfi] at c5
  clear hcell hfr h hat hy hN hsd hfi
  cases sd
  · clear hs
    go_enter Try.func31, Try.ntmps31
    go_wp2_with fail
    refine (rat20_any R _ ys q id w HR.out).mono ?_
    rintro e w1 ⟨rfl, e0⟩
    have e1 := e0.symm
    clear e0
    subst e1
    rw [HAt.out]
    go_wp2_with fail
    go_ret
    exact ⟨rfl, rfl⟩
  · cases fi
    · exact absurd ⟨rfl, rfl⟩ hs
    · clear hs
      go_enter Try.func31, Try.ntmps31
      go_wp2_with fail
      refine (rat20_any R _ ys q id w HR.out).mono ?_
      rintro e w1 ⟨rfl, e0⟩
      have e1 := e0.symm
      clear e0
      subst e1
      rw [HAt.out]
      go_wp2_with fail
      go_ret
      exact ⟨rfl, rfl⟩
set_option maxHeartbeats 1000000 in
theorem rdata20_full (R : Nat) (lv : Value) (ys : List SmV) (q : Sd) (id : Int) (bv : Value) (zs : List Int) (last : Bool) (k : Nat) (y : SmV) (w : World) (h : RsObj w R lv ys q) (hat : at20 q.l id = k) (hy : ys[k]? = some y) (hs : y.x.said = true) (hf : y.x.fin = false) (hb : Sl .u8 w bv zs) (hl : ys.length ≤ 1000) (hp : ∀ y ∈ ys, y.x.b.length ≤ 1000000) (hz : zs.length ≤ 1000000) (hfull : q.cap < sumB q.l + zs.length) :
    Calls Try.prog 31 #[.pointer (some ⟨R, 0, none⟩), .int .i64 id, bv, .bool last] w fun e w' => e = .returned (.int .i64 4) ∧ ∃ n, w' = w.drewN n := by
  obtain ⟨g, c, elv, hk, hc1, hc2, hgR, hgl, hfr, hcell⟩ := h.shape hy
  unfold maxLen at hc2
  have HR := Lib.hid (show RsObj w R (.slice (some ⟨g, 0, none⟩) ys.length c) ys q from elv ▸ h)
  subst elv
  have HAt := Lib.hid hat
  have HY := Lib.hid hy
  have c4 := hcell 4 (by decide)
  have c5 := hcell 5 (by decide)
  simp only [smC, List.getElem?_cons_succ, List.getElem?_cons_zero] at c4 c5
  obtain ⟨f0, f1, f2⟩ := HR.out.blk.cells
  obtain ⟨N, hN⟩ : ∃ N, ys.length = N := ⟨_, rfl⟩
  have HN := Lib.hid hN
  rw [hN] at f1 hk hc1
  have dk : decide ((k : Int) < 0) = false := decide_eq_false (by omega)
  rw [hs] at c4
  rw [hf] at c5
  obtain ⟨ab, cb, rfl, _⟩ := (show _ from hb)
  have HSB := Lib.hid (sumB_le 1000000 q.l (by rw [HR.out.e]; intro x hx; obtain ⟨y', hy', rfl⟩ := List.mem_map.1 hx; exact hp y' hy'))
  have hql : q.l.length ≤ 1000 := by rw [HR.out.e, List.length_map]; omega
  have HWt := Lib.hid (show ∀ n, Calls Try.prog 16 #[.pointer (some ⟨R, 0, none⟩)] (w.drewN n) fun e w' => e = .returned (.int .i64 (sumB q.l : Nat)) ∧ w' = w.drewN n from fun n => rwaiting20_any R _ ys q (w.drewN n) (HR.out.below (below_drewN (Below.refl _ _) n)) hl hp)
  have dz : decide (q.cap < ((sumB q.l + zs.length : Nat) : Int)) = true := decide_eq_true (by omega)
  have dz' : decide (q.cap < (sumB q.l : Int) + (zs.length : Int)) = true := decide_eq_true (by omega)
  have hsum : IntKind.i64.wrap ((sumB q.l : Int) + (zs.length : Int)) = (sumB q.l : Int) + (zs.length : Int) := wrap_i64_small (by omega) (by have := HSB.out; omega)
  clear hcell hfr h hat hy hN hs hf hz hfull hp hl hb hql
  go_enter Try.func31, Try.ntmps31
  go_wp2_with fail
  refine (rat20_any R _ ys q id w HR.out).mono ?_
  rintro e w1 ⟨rfl, e0⟩
  have e1 := e0.symm
  clear e0
  subst e1
  rw [HAt.out]
  go_wp2_with fail
  go_quiet ((go_at_call 16; exact Calls.quiet_of_same (HWt.out _)))
  go_wp2_with fail
  go_ret
  exact ⟨rfl, _, rfl⟩
def dataS (q : Sd) (k : Nat) (x : Sm) (zs : List Int) (last : Bool) : Sd := { q with l := q.l.set k { x with b := x.b ++ zs, fin := last } }
theorem data_set {W : World} {R g c N k : Nat} {ys : List SmV} {q : Sd} {y : SmV} (h : RsObj W R (.slice (some ⟨g, 0, none⟩) N c) ys q) (hN : ys.length = N) (hy : ys[k]? = some y) {vb : Value} {bs : List Int} (hb : Sl .u8 W vb bs) (hf : ∀ k, vb.ownBlock = some k → k ≠ R ∧ g ≠ k) (last : Bool) :
    (W.cell? ⟨g, k * 7 + 6, none⟩).isSome = true ∧ W.frozen? ⟨g, k * 7 + 6, none⟩ = false ∧ (W.setCell ⟨g, k * 7 + 6, none⟩ vb).cell? ⟨R, 1, none⟩ = some (.slice (some ⟨g, 0, none⟩) N c) ∧ (W.setCell ⟨g, k * 7 + 6, none⟩ vb).cell? ⟨g, k * 7 + 5, none⟩ = some (.bool y.x.fin) ∧ (W.setCell ⟨g, k * 7 + 6, none⟩ vb).frozen? ⟨g, k * 7 + 5, none⟩ = false ∧
      g < (W.setCell ⟨g, k * 7 + 6, none⟩ vb).heap.size ∧ R < (W.setCell ⟨g, k * 7 + 6, none⟩ vb).heap.size ∧ RsObj ((W.setCell ⟨g, k * 7 + 6, none⟩ vb).setCell ⟨g, k * 7 + 5, none⟩ (.bool last)) R (.slice (some ⟨g, 0, none⟩) N c) (ys.set k ⟨{ y.x with b := bs, fin := last }, y.hv, vb⟩) { q with l := q.l.set k { y.x with b := bs, fin := last } } ∧
      Turn (fun k => k = g) W ((W.setCell ⟨g, k * 7 + 6, none⟩ vb).setCell ⟨g, k * 7 + 5, none⟩ (.bool last)) := by
  obtain ⟨g1, c1, e1, _, _, _, _, hgl, hfr, hcell⟩ := h.shape hy
  simp only [Value.slice.injEq, Option.some.injEq, Addr.mk.injEq, and_true] at e1
  obtain ⟨rfl, _, rfl⟩ := e1
  have q6 := hcell 6 (by decide)
  simp only [smC, List.getElem?_cons_succ, List.getElem?_cons_zero] at q6
  have hn := h.np y (List.mem_of_getElem? hy)
  have hnp : ∀ y' : SmV, y'.bv = vb → y'.hv = y.hv → y'.x.head = y.x.head → (y'.x.head ≠ [] → ∀ k, y'.hv.ownBlock = some k → k ≠ R ∧ g ≠ k) ∧ (y'.x.b ≠ [] → ∀ k, y'.bv.ownBlock = some k → k ≠ R ∧ g ≠ k) := fun y' e1 e2 e3 => by
    rw [e1, e2, e3]
    exact ⟨fun h1 k hk => ⟨(hn.1 h1 k hk).1, fun e => (hn.1 h1 k hk).2 (by rw [← e]; rfl)⟩, fun _ k hk => hf k hk⟩
  obtain ⟨p1, n1, t1, u1⟩ := h.setN hN (j := 6) (y' := ⟨{ y.x with b := bs }, y.hv, vb⟩) (u := vb) hy (by decide) rfl ⟨(h.pay y (List.mem_of_getElem? hy)).1, hb⟩ (hnp _ rfl rfl rfl)
  have pp1 := p1.pay _ (List.mem_of_getElem? t1)
  obtain ⟨p2, n2, t2, u2⟩ := p1.setN n1 (j := 5) (y' := ⟨{ y.x with b := bs, fin := last }, y.hv, vb⟩) (u := .bool last) t1 (by decide) rfl pp1 (hnp _ rfl rfl rfl)
  obtain ⟨g2, c2, e2, _, _, _, _, hgl2, hfr2, hcell2⟩ := p1.shape t1
  simp only [Value.slice.injEq, Option.some.injEq, Addr.mk.injEq, and_true] at e2
  obtain ⟨rfl, _, rfl⟩ := e2
  have q5 := hcell2 5 (by decide)
  simp only [smC, List.getElem?_cons_succ, List.getElem?_cons_zero] at q5
  simp only [List.set_set] at p2
  exact ⟨by rw [q6]; rfl, hfr _, p1.blk.cells.2.1, q5, hfr2 _, hgl2, p1.blk.lt, p2, u1.trans u2⟩
set_option maxHeartbeats 4000000 in
theorem rdata20_yes (R : Nat) (lv : Value) (ys : List SmV) (q : Sd) (id : Int) (bv : Value) (zs : List Int) (last : Bool) (k : Nat) (y : SmV) (w : World) (h : RsObj w R lv ys q) (hat : at20 q.l id = k) (hy : ys[k]? = some y) (hs : y.x.said = true) (hf : y.x.fin = false) (hb : Sl .u8 w bv zs) (hl : ys.length ≤ 1000) (hp : ∀ y ∈ ys, y.x.b.length ≤ 1000000) (hz : zs.length ≤ 1000000) (hroom : (sumB q.l : Int) + zs.length ≤ q.cap) :
    Calls Try.prog 31 #[.pointer (some ⟨R, 0, none⟩), .int .i64 id, bv, .bool last] w fun e w' => e = .returned (.int .i64 0) ∧
      ∃ bv', RsObj w' R lv (ys.set k ⟨{ y.x with b := y.x.b ++ zs, fin := last }, y.hv, bv'⟩) (dataS q k y.x zs last) ∧ Turn (fun g => lv.ownBlock = some g) w w' ∧ ∀ g, bv'.ownBlock = some g → w.heap.size ≤ g := by
  obtain ⟨g, c, elv, hk, hc1, hc2, hgR, hgl, hfr, hcell⟩ := h.shape hy
  unfold maxLen at hc2
  have HR := Lib.hid (show RsObj w R (.slice (some ⟨g, 0, none⟩) ys.length c) ys q from elv ▸ h)
  subst elv
  have HAt := Lib.hid hat
  have HY := Lib.hid hy
  have c4 := hcell 4 (by decide)
  have c5 := hcell 5 (by decide)
  simp only [smC, List.getElem?_cons_succ, List.getElem?_cons_zero] at c4 c5
  obtain ⟨f0, f1, f2⟩ := HR.out.blk.cells
  obtain ⟨N, hN⟩ : ∃ N, ys.length = N := ⟨_, rfl⟩
  have HN := Lib.hid hN
  rw [hN] at f1 hk hc1
  have dk : decide ((k : Int) < 0) = false := decide_eq_false (by omega)
  rw [hs] at c4
  rw [hf] at c5
  obtain ⟨ab, cb, rfl, _⟩ := (show _ from hb)
  have HB := Lib.hid (And.intro hb hz)
  have HL := Lib.hid (hp y (List.mem_of_getElem? HY.out))
  have hbb := (HR.out.pay y (List.mem_of_getElem? HY.out)).2
  obtain ⟨pb, pc, hbv, _⟩ := hbb
  have c6 := hcell 6 (by decide)
  simp only [smC, List.getElem?_cons_succ, List.getElem?_cons_zero] at c6
  rw [hbv] at c6
  have HBv := Lib.hid hbv
  have HSB := Lib.hid (sumB_le 1000000 q.l (by rw [HR.out.e]; intro x hx; obtain ⟨y', hy', rfl⟩ := List.mem_map.1 hx; exact hp y' hy'))
  have hql : q.l.length ≤ 1000 := by rw [HR.out.e, List.length_map]; omega
  have HWt := Lib.hid (show ∀ n, Calls Try.prog 16 #[.pointer (some ⟨R, 0, none⟩)] (w.drewN n) fun e w' => e = .returned (.int .i64 (sumB q.l : Nat)) ∧ w' = w.drewN n from fun n => rwaiting20_any R _ ys q (w.drewN n) (HR.out.below (below_drewN (Below.refl _ _) n)) hl hp)
  have dz : decide (q.cap < ((sumB q.l + zs.length : Nat) : Int)) = false := decide_eq_false (by omega)
  have dz' : decide (q.cap < (sumB q.l : Int) + (zs.length : Int)) = false := decide_eq_false (by omega)
  have hsum : IntKind.i64.wrap ((sumB q.l : Int) + (zs.length : Int)) = (sumB q.l : Int) + (zs.length : Int) := wrap_i64_small (by omega) (by have := HSB.out; omega)
  have hix := fun q => run_index_sl (P := Try.prog) (t := 62) (s := 7) Try.underlying62 (fun _ => by kernel_rfl) g 0 N c k hk q
  simp only [Nat.zero_add] at hix
  clear hcell hfr h hat hy hN hs hf hz hroom hp hl hb hql hbv
  go_enter Try.func31, Try.ntmps31
  go_wp2_with fail
  refine (rat20_any R _ ys q id w HR.out).mono ?_
  rintro e w1 ⟨rfl, e0⟩
  have e1 := e0.symm
  clear e0
  subst e1
  rw [HAt.out]
  go_wp2_with fail
  go_quiet ((go_at_call 16; exact Calls.quiet_of_same (HWt.out _)))
  go_wp2_with fail
  have HB0 := Lib.hid (show Below w.heap.size w (w.drewN nq) from below_drewN (Below.refl _ _) nq)
  generalize w.drewN nq = w2 at HB0 ⊢
  clear HWt
  refine wp_region_held (S := fun w' => w'.cell? ⟨R, 1, none⟩ = some (.slice (some ⟨g, 0, none⟩) N c)) (by kernel_rfl) ?_
  have HB1 := Lib.hid (show Below w.heap.size w ({ w2 with drawn := w2.drawn + 1 } : World) from HB0.out.drew)
  generalize ({ w2 with drawn := w2.drawn + 1 } : World) = w3 at HB1 ⊢
  have HSt := Lib.hid (show (∀ W, Below w.heap.size w W → W.cell? ⟨R, 1, none⟩ = some (.slice (some ⟨g, 0, none⟩) N c)) ∧ (∀ W, Below w.heap.size w W → W.cell? ⟨g, k * 7 + 6, none⟩ = some (.slice pb y.x.b.length pc)) from
    ⟨fun W hb => by rw [← HN.out]; exact (HR.out.below hb).blk.cells.2.1, fun W hb => by
      obtain ⟨g', c', e', _, _, _, _, _, _, hc'⟩ := (HR.out.below hb).shape HY.out
      simp only [Value.slice.injEq, Option.some.injEq, Addr.mk.injEq, and_true, true_and] at e'
      obtain ⟨rfl, rfl⟩ := e'
      have h6 := hc' 6 (by decide)
      simp only [smC, List.getElem?_cons_succ, List.getElem?_cons_zero] at h6
      rw [HBv.out] at h6
      exact h6⟩)
  clear f0 f1 f2 c4 c5 c6
  have s1 := HSt.out.1 w3 HB1.out
  refine wpAnyH_early 0 44 (.pointer (some ⟨R, 0, none⟩)) (by kernel_rfl) (by kernel_rfl) (by kernel_rfl) (fun _ _ _ h => h) rfl (fun o ho => by obtain rfl := Option.some.inj ho; exact .inl ⟨rfl, fun W hS => rfl⟩) s1 ?_
  simp only [Act.put, List.setIfInBounds_toArray, List.set_cons_zero, List.set_cons_succ]
  refine wpAnyH_early 1 45 (.pointer (some ⟨R, 0, none⟩)) (by kernel_rfl) (by kernel_rfl) (by kernel_rfl) (fun _ _ _ h => h) rfl (fun o ho => by obtain rfl := Option.some.inj ho; exact .inl ⟨rfl, fun W hS => rfl⟩) s1 ?_
  simp only [Act.put, List.setIfInBounds_toArray, List.set_cons_zero, List.set_cons_succ]
  refine wpAnyH_early 2 46 (.pointer (some ⟨R, 1, none⟩)) (by kernel_rfl) (by kernel_rfl) (by kernel_rfl) (fun _ _ _ h => h) rfl (fun o ho => by obtain rfl := Option.some.inj ho; exact .inl ⟨rfl, fun W hS => rfl⟩) s1 ?_
  simp only [Act.put, List.setIfInBounds_toArray, List.set_cons_zero, List.set_cons_succ]
  refine wpAnyH_early 3 47 (.slice (some ⟨g, 0, none⟩) N c) (by kernel_rfl) (by kernel_rfl) (by kernel_rfl) (fun _ _ _ h => h) rfl (fun o ho => by obtain rfl := Option.some.inj ho; exact .inl ⟨rfl, fun W hS => by simp [execOp, go_sem, hS]⟩) s1 ?_
  simp only [Act.put, List.setIfInBounds_toArray, List.set_cons_zero, List.set_cons_succ]
  refine wpAnyH_early 4 48 (.int .i64 (k : Int)) (by kernel_rfl) (by kernel_rfl) (by kernel_rfl) (fun _ _ _ h => h) rfl (fun o ho => by obtain rfl := Option.some.inj ho; exact .inl ⟨rfl, fun W hS => rfl⟩) s1 ?_
  simp only [Act.put, List.setIfInBounds_toArray, List.set_cons_zero, List.set_cons_succ]
  refine wpAnyH_early 6 50 (.pointer (some ⟨R, 0, none⟩)) (by kernel_rfl) (by kernel_rfl) (by kernel_rfl) (fun _ _ _ h => h) rfl (fun o ho => by obtain rfl := Option.some.inj ho; exact .inl ⟨rfl, fun W hS => rfl⟩) s1 ?_
  simp only [Act.put, List.setIfInBounds_toArray, List.set_cons_zero, List.set_cons_succ]
  refine wpAnyH_early 7 51 (.pointer (some ⟨R, 0, none⟩)) (by kernel_rfl) (by kernel_rfl) (by kernel_rfl) (fun _ _ _ h => h) rfl (fun o ho => by obtain rfl := Option.some.inj ho; exact .inl ⟨rfl, fun W hS => rfl⟩) s1 ?_
  simp only [Act.put, List.setIfInBounds_toArray, List.set_cons_zero, List.set_cons_succ]
  refine wpAnyH_early 8 52 (.pointer (some ⟨R, 1, none⟩)) (by kernel_rfl) (by kernel_rfl) (by kernel_rfl) (fun _ _ _ h => h) rfl (fun o ho => by obtain rfl := Option.some.inj ho; exact .inl ⟨rfl, fun W hS => rfl⟩) s1 ?_
  simp only [Act.put, List.setIfInBounds_toArray, List.set_cons_zero, List.set_cons_succ]
  refine wpAnyH_early 9 53 (.slice (some ⟨g, 0, none⟩) N c) (by kernel_rfl) (by kernel_rfl) (by kernel_rfl) (fun _ _ _ h => h) rfl (fun o ho => by obtain rfl := Option.some.inj ho; exact .inl ⟨rfl, fun W hS => by simp [execOp, go_sem, hS]⟩) s1 ?_
  simp only [Act.put, List.setIfInBounds_toArray, List.set_cons_zero, List.set_cons_succ]
  refine wpAnyH_early 10 54 (.int .i64 (k : Int)) (by kernel_rfl) (by kernel_rfl) (by kernel_rfl) (fun _ _ _ h => h) rfl (fun o ho => by obtain rfl := Option.some.inj ho; exact .inl ⟨rfl, fun W hS => rfl⟩) s1 ?_
  simp only [Act.put, List.setIfInBounds_toArray, List.set_cons_zero, List.set_cons_succ]
  refine wpAnyH_early 11 55 (.pointer (some ⟨g, k * 7, none⟩)) (by kernel_rfl) (by kernel_rfl) (by kernel_rfl) (fun _ _ _ h => h) rfl (fun o ho => by obtain rfl := Option.some.inj ho; exact .inl ⟨rfl, fun W hS => by simp [execOp, go_sem, hix .i64]⟩) s1 ?_
  simp only [Act.put, List.setIfInBounds_toArray, List.set_cons_zero, List.set_cons_succ]
  refine wpAnyH_early 12 56 (.pointer (some ⟨g, k * 7 + 6, none⟩)) (by kernel_rfl) (by kernel_rfl) (by kernel_rfl) (fun _ _ _ h => h) rfl (fun o ho => by obtain rfl := Option.some.inj ho; exact .inl ⟨rfl, fun W hS => by simp [execOp, go_sem]⟩) s1 ?_
  simp only [Act.put, List.setIfInBounds_toArray, List.set_cons_zero, List.set_cons_succ]
  refine wpAnyH_early 15 59 (.slice ab zs.length cb) (by kernel_rfl) (by kernel_rfl) (by kernel_rfl) (fun _ _ _ h => h) rfl (fun o ho => by obtain rfl := Option.some.inj ho; exact .inl ⟨rfl, fun W hS => rfl⟩) s1 ?_
  simp only [Act.put, List.setIfInBounds_toArray, List.set_cons_zero, List.set_cons_succ]
  refine wpAnyH_swap 5 13 49 57 (.slice pb y.x.b.length pc) (by kernel_rfl) (by kernel_rfl) (by kernel_rfl) rfl rfl (by decide) (by decide) (fun v w' => ∃ C, v = .slice (some ⟨C, 0, none⟩) 0 0 ∧ w'.ownsRow w.heap.size 5 1 (.slice (some ⟨C, 0, none⟩) 0 0) 0 [] ∧ Below w.heap.size w w') ?sI ?sJ s1 ?sS ?sK
  case sI =>
    intro o ho
    obtain rfl := Option.some.inj ho
    have hx : ∃ C, Value.slice (some ⟨w3.heap.size, 0, none⟩) 0 0 = .slice (some ⟨C, 0, none⟩) 0 0 ∧ (w3.alloc (.cells #[] 5)).ownsRow w.heap.size 5 1 (.slice (some ⟨C, 0, none⟩) 0 0) 0 [] ∧ Below w.heap.size w (w3.alloc (.cells #[] 5)) := ⟨_, rfl, World.ownsRow_made _ _ 0 HB1.out.size (by decide) rfl, HB1.out.alloc HB1.out.size _⟩
    exact ⟨by simpa [gives, go_sem] using hx, by simpa [gives, go_sem] using hx⟩
  case sJ =>
    intro o ho
    obtain rfl := Option.some.inj ho
    refine ⟨by have c6 := HSt.out.2 w3 HB1.out; simp [gives, go_sem, c6], ?_⟩
    rintro u w1 ⟨C, rfl, hC, hb4⟩
    have c6 := HSt.out.2 w1 hb4
    simp [gives, go_sem, c6, Act.put]
  case sS =>
    rintro u w1 ⟨C, rfl, hC, hb4⟩
    exact HSt.out.1 w1 hb4
  case sK =>
    rintro u w4 ⟨C, rfl, hC, hb4⟩
    have HC := Lib.hid (And.intro hC hb4)
    clear hC hb4
    have s2 := HSt.out.1 w4 HC.out.2
    simp only [Act.put, List.setIfInBounds_toArray, List.set_cons_zero, List.set_cons_succ]
    refine wpAnyH_only 14 (by kernel_rfl) rfl (fun o ho => ?_)
    obtain rfl := Option.some.inj ho
    have hyb := (HR.out.below HC.out.2).pay y (List.mem_of_getElem? HY.out)
    rw [HBv.out] at hyb
    refine wp_of_gives (R := fun v w' => w'.ownsRow w.heap.size 5 1 v y.x.b.length (y.x.b.map (Value.int .u8)) ∧ Below w.heap.size w w') (gives_fresh_ints (.tmp 49) (.tmp 57) 32 rfl w.heap.size 5 .u8 1 Try.underlying32 Try.info5' C rfl HC.out.1 _ y.x.b rfl hyb.2 (by have := HL.out; omega) (by have := HL.out; unfold maxLen; omega) HC.out.2.size (fun v5 w5 ho5 hb5 => ⟨ho5, HC.out.2.trans (hb5.mono HC.out.2.size)⟩)) ?_
    rintro v5 w6 ⟨ho5, hb5⟩
    have HO5 := Lib.hid (And.intro ho5 hb5)
    clear ho5 hb5 hyb
    have s3 := HSt.out.1 w6 HO5.out.2
    refine ⟨s3, ?_⟩
    simp only [Act.put, List.setIfInBounds_toArray, List.set_cons_zero, List.set_cons_succ]
    refine wpAnyH_only 16 (by kernel_rfl) rfl (fun o ho => ?_)
    obtain rfl := Option.some.inj ho
    refine wp_of_gives (R := fun v w' => w'.ownsRow w.heap.size 5 1 v (y.x.b.length + zs.length) ((y.x.b ++ zs).map (Value.int .u8)) ∧ Below w.heap.size w w') (gives_app_ints (.tmp 58) (.tmp 59) 32 rfl w.heap.size 5 .u8 1 Try.underlying32 Try.info5' v5 y.x.b.length y.x.b rfl HO5.out.1 _ zs rfl (HB.out.1.below HO5.out.2) (by have := HL.out; have := HB.out.2; omega) (by have := HL.out; have := HB.out.2; unfold maxLen; omega) HO5.out.2.size (fun v7 w7 ho7 hb7 _ => ⟨ho7, HO5.out.2.trans hb7⟩)) ?_
    rintro v7 w7 ⟨ho7, hb7⟩
    have hlen : y.x.b.length + zs.length = (y.x.b ++ zs).length := by rw [List.length_append]
    rw [hlen] at ho7
    obtain ⟨a7, k7, rfl, _⟩ := owned_shape ho7
    have HO7 := Lib.hid (show RsObj w7 R (.slice (some ⟨g, 0, none⟩) N c) ys q ∧ Sl .u8 w7 (.slice a7 (y.x.b ++ zs).length k7) (y.x.b ++ zs) ∧ (∀ g, (Value.slice a7 (y.x.b ++ zs).length k7).ownBlock = some g → w.heap.size ≤ g) ∧ Below w.heap.size w w7 from
      ⟨by rw [← HN.out]; exact HR.out.below hb7, Sl.of_own ho7 (fun z hz => by
        rcases List.mem_append.1 hz with hz | hz
        · exact (HR.out.pay y (List.mem_of_getElem? HY.out)).2.fit z hz
        · exact HB.out.1.fit z hz) (by have := HL.out; have := HB.out.2; rw [List.length_append]; unfold maxLen; omega), fun g hg => (ho7.lt g hg).1, hb7⟩)
    have s4 := HSt.out.1 w7 hb7
    clear ho7 hb7 hlen
    refine ⟨s4, ?_⟩
    simp only [Act.put, List.setIfInBounds_toArray, List.set_cons_zero, List.set_cons_succ]
    refine wpAnyH_early 17 61 (.pointer (some ⟨g, k * 7, none⟩)) (by kernel_rfl) (by kernel_rfl) (by kernel_rfl) (fun _ _ _ h => h) rfl (fun o ho => by obtain rfl := Option.some.inj ho; exact .inl ⟨rfl, fun W hS => by simp [execOp, go_sem, hix .i64]⟩) s4 ?_
    simp only [Act.put, List.setIfInBounds_toArray, List.set_cons_zero, List.set_cons_succ]
    refine wpAnyH_early 18 62 (.pointer (some ⟨g, k * 7 + 6, none⟩)) (by kernel_rfl) (by kernel_rfl) (by kernel_rfl) (fun _ _ _ h => h) rfl (fun o ho => by obtain rfl := Option.some.inj ho; exact .inl ⟨rfl, fun W hS => by simp [execOp, go_sem]⟩) s4 ?_
    simp only [Act.put, List.setIfInBounds_toArray, List.set_cons_zero, List.set_cons_succ]
    refine wpAnyH_only 19 (by kernel_rfl) rfl (fun o ho => ?_)
    obtain rfl := Option.some.inj ho
    have hn := HR.out.np y (List.mem_of_getElem? HY.out)
    have hR := HR.out.blk.lt
    have HF := Lib.hid (data_set HO7.out.1 HN.out HY.out HO7.out.2.1 (fun k hk => ⟨fun e => by have := HO7.out.2.2.1 k hk; omega, fun e => by have := HO7.out.2.2.1 k hk; omega⟩) last)
    clear hn hR
    have q6 := HF.out.1
    have z6 := HF.out.2.1
    refine wp_put rfl 32 (.tmp 62) (.tmp 60) rfl g (k * 7 + 6) (.slice a7 (y.x.b ++ zs).length k7) rfl rfl rfl (by kernel_rfl) q6 z6 ⟨HF.out.2.2.1, ?_⟩
    refine wpAnyH_done (by kernel_rfl) ?_ _
    clear q6 z6 s1 s2 s3 s4
    generalize w7.setCell ⟨g, k * 7 + 6, none⟩ (.slice a7 (y.x.b ++ zs).length k7) = w8 at HF ⊢
    have f1 := HF.out.2.2.1
    have q5 := HF.out.2.2.2.1
    have g5 := HF.out.2.2.2.2.1
    have hg8 := HF.out.2.2.2.2.2.1
    have hR8 := HF.out.2.2.2.2.2.2.1
    go_wp2_with fail
    go_ret
    exact ⟨rfl, .slice a7 (y.x.b ++ zs).length k7, by rw [HN.out]; exact HF.out.2.2.2.2.2.2.2.1, ((Turn.of_below HO7.out.2.2.2 : Turn (fun k => k = g) w w7).trans HF.out.2.2.2.2.2.2.2.2).mono (fun j _ e => by rw [show j = g from e]; rfl), HO7.out.2.2.1⟩
end Go.Proofs.Ytnoegbdmjinfjaa

/-
  A frame stored into its row, in one step.
-/
namespace Go.Proofs.Ytnoegbdmjinfjaa
open Go.RowKit

theorem store_fr13 {ops : Array Oper} {rest : List Oper} {o : Oper} {a : Act} {w : World} {Q : Exit → Act → World → Prop} (hgd : o.guard = none) (x y : Operand) (ho : o.op = .store 34 x y)
    (g : Nat) (F : Fr) (ap : Option Addr) (n cp : Nat) (cs : Array Value) (hx : a.eval x = .pointer (some ⟨g, 0, none⟩)) (hy : a.eval y = .agg #[.int .i64 F.kind, .int .i64 F.flags, .int .i64 F.stream, .slice ap n cp]) (hg : w.heap[g]? = some (.cells cs 34 (0, 0))) (hcs : cs.size = 4)
    (h : wpList Try.prog ops Q rest (a.put o.dst undef) (w.setRow g #[.int .i64 F.kind, .int .i64 F.flags, .int .i64 F.stream, .slice ap n cp])) : wpList Try.prog ops Q (o :: rest) a w :=
  wpList_store_row hgd 34 x y ho g _ hx hy 34 cs hg (by rw [show (#[Value.int .i64 F.kind, .int .i64 F.flags, .int .i64 F.stream, .slice ap n cp] : Array Value).size = 4 from rfl]; kernel_rfl) (by rw [hcs]; rfl) (by simp [Value.oneCell']) h
theorem wp_fr13 {o : Oper} {a : Act} {w : World} {K : Act → World → Prop} {Q : Exit → Act → World → Prop} (hd : o.dst = none) (x y : Operand) (ho : o.op = .store 34 x y) (g : Nat) (F : Fr) (ap : Option Addr) (n cp : Nat) (cs : Array Value) (hx : a.eval x = .pointer (some ⟨g, 0, none⟩))
    (hy : a.eval y = .agg #[.int .i64 F.kind, .int .i64 F.flags, .int .i64 F.stream, .slice ap n cp]) (hg : w.heap[g]? = some (.cells cs 34 (0, 0))) (hcs : cs.size = 4) (h : K a (w.setRow g #[.int .i64 F.kind, .int .i64 F.flags, .int .i64 F.stream, .slice ap n cp])) : o.wp Try.prog a w K Q :=
  wp_store_row 34 x y ho g _ hx hy 34 cs hg (by rw [show (#[Value.int .i64 F.kind, .int .i64 F.flags, .int .i64 F.stream, .slice ap n cp] : Array Value).size = 4 from rfl]; kernel_rfl) (by rw [hcs]; rfl) (by simp [Value.oneCell']) (by rw [hd]; exact h)
end Go.Proofs.Ytnoegbdmjinfjaa

/-
  Layer 20's reference: what its frame says of a stream; the blocks that it lays.
-/
namespace Go.Proofs.Ytnoegbdmjinfjaa
set_option maxRecDepth 20000
open Go.RowKit

/-- how many bytes may go -/
def frN (x : Sm) (room most : Int) : Int := roomW x.b.length [room, most, x.win]
/-- the frame of a stream, whether it has one, and the stream behind it -/
def frF (x : Sm) (room most : Int) : Fr :=
  if x.waits = true then ⟨1, if x.fin = true ∧ x.b = [] then 5 else 4, x.id, x.head⟩ else if x.b = [] then ⟨0, 1, x.id, []⟩ else if frN x room most = 0 then ⟨0, 0, x.id, []⟩ else ⟨0, if frN x room most = x.b.length ∧ x.fin = true then 1 else 0, x.id, x.b.take (frN x room most).toNat⟩
def frO (x : Sm) (room most : Int) : Bool := if x.waits = true then true else if x.b = [] then x.fin else !decide (frN x room most = 0)
def frX (x : Sm) (room most : Int) : Sm :=
  if x.waits = true then { x with waits := false, head := [] } else if x.b = [] then x else if frN x room most = 0 then x else { x with b := x.b.drop (frN x room most).toNat, win := x.win - frN x room most }
theorem frN_rng (x : Sm) (room most : Int) : 0 ≤ frN x room most ∧ frN x room most ≤ x.b.length ∧ (frN x room most ≠ 0 → frN x room most ≤ x.win ∧ frN x room most ≤ room ∧ frN x room most ≤ most) := by
  unfold frN roomW
  simp only [List.foldl_cons, List.foldl_nil]
  omega

/-- what frame has laid: an empty frame, the stream, the frame that it makes -/
structure Laid20 (w W : World) (y : SmV) (F : List Value) : Prop where
  e : W = ((w.alloc (.cells #[.int .i64 0, .int .i64 0, .int .i64 0, .slice none 0 0] 34)).alloc (.cells (smC y).toArray 72)).alloc (.cells F.toArray 34)
theorem Laid20.below {w W : World} {y : SmV} {F : List Value} (h : Laid20 w W y F) : Below w.heap.size w W := by
  rw [h.e]
  exact (((Below.refl _ _).alloc (Nat.le_refl _) _).alloc (by simp) _).alloc (by simp; omega) _
theorem Laid20.size {w W : World} {y : SmV} {F : List Value} (h : Laid20 w W y F) : W.heap.size = w.heap.size + 1 + 1 + 1 := by rw [h.e]; simp
theorem Laid20.zero {w W : World} {y : SmV} {F : List Value} (h : Laid20 w W y F) : W.heap[w.heap.size]? = some (.cells #[.int .i64 0, .int .i64 0, .int .i64 0, .slice none 0 0] 34 (0, 0)) := by
  rw [h.e]
  have h1 := heap_alloc_new w (.cells #[.int .i64 0, .int .i64 0, .int .i64 0, .slice none 0 0] 34)
  have b1 : Below (w.heap.size + 1) (w.alloc (.cells #[.int .i64 0, .int .i64 0, .int .i64 0, .slice none 0 0] 34)) (((w.alloc (.cells #[.int .i64 0, .int .i64 0, .int .i64 0, .slice none 0 0] 34)).alloc (.cells (smC y).toArray 72)).alloc (.cells F.toArray 34)) := ((Below.refl _ _).alloc (by simp) _).alloc (by simp) _
  exact (b1.block w.heap.size (by omega)).trans h1
theorem Laid20.sm {w W : World} {y : SmV} {F : List Value} (h : Laid20 w W y F) : W.heap[w.heap.size + 1]? = some (.cells (smC y).toArray 72 (0, 0)) := by
  rw [h.e]
  have h1 := heap_alloc_new (w.alloc (.cells #[.int .i64 0, .int .i64 0, .int .i64 0, .slice none 0 0] 34)) (.cells (smC y).toArray 72)
  rw [show (w.alloc (.cells #[.int .i64 0, .int .i64 0, .int .i64 0, .slice none 0 0] 34)).heap.size = w.heap.size + 1 by simp] at h1
  exact ((((Below.refl (w.heap.size + 1 + 1) _).alloc (by simp) _).block (w.heap.size + 1) (by omega))).trans h1
theorem Laid20.fr {w W : World} {y : SmV} {F : List Value} (h : Laid20 w W y F) : W.heap[w.heap.size + 1 + 1]? = some (.cells F.toArray 34 (0, 0)) := by
  rw [h.e]
  have h1 := heap_alloc_new ((w.alloc (.cells #[.int .i64 0, .int .i64 0, .int .i64 0, .slice none 0 0] 34)).alloc (.cells (smC y).toArray 72)) (.cells F.toArray 34)
  rw [show ((w.alloc (.cells #[.int .i64 0, .int .i64 0, .int .i64 0, .slice none 0 0] 34)).alloc (.cells (smC y).toArray 72)).heap.size = w.heap.size + 1 + 1 by simp] at h1
  exact h1
theorem RsObj.turnS {W W' : World} {R : Nat} {lv : Value} {ys : List SmV} {q : Sd} {S : Nat → Prop} (h : RsObj W R lv ys q) (ht : Turn S W W') (hR : ¬ S R) (hl : ∀ g, lv.ownBlock = some g → ¬ S g)
    (hp : ∀ y ∈ ys, (y.x.head ≠ [] → ∀ g, y.hv.ownBlock = some g → ¬ S g) ∧ (y.x.b ≠ [] → ∀ g, y.bv.ownBlock = some g → ¬ S g)) : RsObj W' R lv ys q :=
  ⟨ht.obj h.blk hR, owned_turn h.row ht hl, fun y hy => ⟨(h.pay y hy).1.turn0 ht (hp y hy).1, (h.pay y hy).2.turn0 ht (hp y hy).2⟩, h.e, fun g hg => ⟨(h.nl g hg).1, Nat.lt_of_lt_of_le (h.nl g hg).2 ht.size⟩, h.np⟩
/-- all blocks that a sender refers to lie ahead of a number -/
structure Lows (n R : Nat) (lv : Value) (ys : List SmV) : Prop where
  r : R < n
  l : ∀ g, lv.ownBlock = some g → g < n
  p : ∀ y ∈ ys, (y.x.head ≠ [] → ∀ g, y.hv.ownBlock = some g → g < n) ∧ (y.x.b ≠ [] → ∀ g, y.bv.ownBlock = some g → g < n)
theorem RsObj.lows {W : World} {R : Nat} {lv : Value} {ys : List SmV} {q : Sd} (h : RsObj W R lv ys q) : Lows W.heap.size R lv ys :=
  ⟨h.blk.lt, fun g hg => (h.nl g hg).2, fun y hy => ⟨fun h1 _ hg => (h.pay y hy).1.lt0 h1 hg, fun h1 _ hg => (h.pay y hy).2.lt0 h1 hg⟩⟩
theorem RsObj.high {W W' : World} {R n : Nat} {lv : Value} {ys : List SmV} {q : Sd} {S : Nat → Prop} (h : RsObj W R lv ys q) (hn : Lows n R lv ys) (ht : Turn S W W') (hS : ∀ k, S k → n ≤ k) : RsObj W' R lv ys q :=
  h.turnS ht (fun e => by have := hS _ e; have := hn.r; omega) (fun g hg e => by have := hS _ e; have := hn.l g hg; omega) (fun y hy => ⟨fun h1 g hg e => by have := hS _ e; have := (hn.p y hy).1 h1 g hg; omega, fun h1 g hg e => by have := hS _ e; have := (hn.p y hy).2 h1 g hg; omega⟩)
theorem Lows.set {n R : Nat} {lv : Value} {ys : List SmV} (h : Lows n R lv ys) (k : Nat) {y' : SmV} (hy : (y'.x.head ≠ [] → ∀ g, y'.hv.ownBlock = some g → g < n) ∧ (y'.x.b ≠ [] → ∀ g, y'.bv.ownBlock = some g → g < n)) : Lows n R lv (ys.set k y') :=
  ⟨h.r, h.l, fun y hm => by
    rcases List.mem_or_eq_of_mem_set hm with hm | rfl
    · exact h.p y hm
    · exact hy⟩
/-- two cells of one stream are set, one behind the other -/
theorem set_two {W : World} {R g c N k : Nat} {ys : List SmV} {q : Sd} {y y1 y2 : SmV} {j1 j2 : Nat} {u1 u2 : Value} (h : RsObj W R (.slice (some ⟨g, 0, none⟩) N c) ys q) (hN : ys.length = N) (hy : ys[k]? = some y) (hj1 : j1 < 7) (hj2 : j2 < 7) (e1 : smC y1 = (smC y).set j1 u1) (e2 : smC y2 = (smC y1).set j2 u2)
    (p1 : Sl .u8 W y1.hv y1.x.head ∧ Sl .u8 W y1.bv y1.x.b) (n1 : (y1.x.head ≠ [] → ∀ k, y1.hv.ownBlock = some k → k ≠ R ∧ g ≠ k) ∧ (y1.x.b ≠ [] → ∀ k, y1.bv.ownBlock = some k → k ≠ R ∧ g ≠ k)) (p2 : ∀ W', Turn (fun k => k = g) W W' → Sl .u8 W' y2.hv y2.x.head ∧ Sl .u8 W' y2.bv y2.x.b) (n2 : (y2.x.head ≠ [] → ∀ k, y2.hv.ownBlock = some k → k ≠ R ∧ g ≠ k) ∧ (y2.x.b ≠ [] → ∀ k, y2.bv.ownBlock = some k → k ≠ R ∧ g ≠ k)) :
    ((W.cell? ⟨g, k * 7 + j1, none⟩).isSome = true ∧ W.frozen? ⟨g, k * 7 + j1, none⟩ = false ∧ W.cell? ⟨R, 1, none⟩ = some (.slice (some ⟨g, 0, none⟩) N c) ∧ R < W.heap.size ∧ g < W.heap.size) ∧ ((W.setCell ⟨g, k * 7 + j1, none⟩ u1).cell? ⟨R, 1, none⟩ = some (.slice (some ⟨g, 0, none⟩) N c) ∧ ((W.setCell ⟨g, k * 7 + j1, none⟩ u1).cell? ⟨g, k * 7 + j2, none⟩).isSome = true ∧ (W.setCell ⟨g, k * 7 + j1, none⟩ u1).frozen? ⟨g, k * 7 + j2, none⟩ = false ∧
      g < (W.setCell ⟨g, k * 7 + j1, none⟩ u1).heap.size ∧ R < (W.setCell ⟨g, k * 7 + j1, none⟩ u1).heap.size) ∧ RsObj ((W.setCell ⟨g, k * 7 + j1, none⟩ u1).setCell ⟨g, k * 7 + j2, none⟩ u2) R (.slice (some ⟨g, 0, none⟩) N c) (ys.set k y2) { q with l := q.l.set k y2.x } ∧
      Turn (fun k => k = g) W (W.setCell ⟨g, k * 7 + j1, none⟩ u1) ∧ Turn (fun k => k = g) W ((W.setCell ⟨g, k * 7 + j1, none⟩ u1).setCell ⟨g, k * 7 + j2, none⟩ u2) := by
  obtain ⟨g1, c1, e3, _, _, _, _, hgl, hfr, hcell⟩ := h.shape hy
  simp only [Value.slice.injEq, Option.some.injEq, Addr.mk.injEq, and_true] at e3
  obtain ⟨rfl, _, rfl⟩ := e3
  obtain ⟨s1, m1, t1, v1⟩ := h.setN hN hy hj1 e1 p1 n1
  obtain ⟨s2, m2, t2, v2⟩ := s1.setN m1 t1 hj2 e2 (p2 _ v1) n2
  obtain ⟨g2, c2, e4, _, _, _, _, hgl2, hfr2, hcell2⟩ := s1.shape t1
  simp only [Value.slice.injEq, Option.some.injEq, Addr.mk.injEq, and_true] at e4
  obtain ⟨rfl, _, rfl⟩ := e4
  simp only [List.set_set] at s2
  refine ⟨⟨by rw [hcell j1 hj1, List.getElem?_eq_getElem (by rw [smC_len]; exact hj1)]; rfl, hfr _, h.blk.cells.2.1, h.blk.lt, hgl⟩, ⟨s1.blk.cells.2.1, by rw [hcell2 j2 hj2, List.getElem?_eq_getElem (by rw [smC_len]; exact hj2)]; rfl, hfr2 _, hgl2, s1.blk.lt⟩, s2, v1, v1.trans v2⟩
/-- what frame's answer is -/
def Frm20 (w : World) (R : Nat) (lv : Value) (ys : List SmV) (q : Sd) (k : Nat) (y : SmV) (room most : Int) (e : Ending) (w' : World) : Prop :=
  ∃ pv hv bv, e = .returned (.tuple #[.agg #[.int .i64 (frF y.x room most).kind, .int .i64 (frF y.x room most).flags, .int .i64 (frF y.x room most).stream, pv], .bool (frO y.x room most)]) ∧ Sl .u8 w' pv (frF y.x room most).pay ∧
    ((frF y.x room most).pay ≠ [] → ∀ g, pv.ownBlock = some g → (y.x.head ≠ [] ∧ y.hv.ownBlock = some g) ∨ (y.x.b ≠ [] ∧ y.bv.ownBlock = some g)) ∧ RsObj w' R lv (ys.set k ⟨frX y.x room most, hv, bv⟩) { q with l := q.l.set k (frX y.x room most) } ∧ Turn (fun g => lv.ownBlock = some g) w w' ∧
    ((frX y.x room most).head ≠ [] → ∀ g, hv.ownBlock = some g → y.x.head ≠ [] ∧ y.hv.ownBlock = some g) ∧ ((frX y.x room most).b ≠ [] → ∀ g, bv.ownBlock = some g → y.x.b ≠ [] ∧ y.bv.ownBlock = some g)
theorem sliced_own {a : Option Addr} {l h m s g : Nat} (e : (sliced a l h m s).ownBlock = some g) (n c : Nat) : (Value.slice a n c).ownBlock = some g := by
  unfold sliced at e
  cases a with
  | none => split at e <;> exact e
  | some ad =>
    split at e
    · exact e
    · simp only [Option.map_some, Value.ownBlock] at e ⊢
      rw [← e]
      unfold Addr.add
      split <;> rfl
theorem Try.sliceB20 : Try.prog.underlying 32 = some (.slice (Try.prog.elem 32)) := by kernel_rfl
theorem Try.sizeB20 (w : World) : (sizeOf (Try.prog.elem 32)).run Try.prog w = .ok 1 w := by kernel_rfl
/-- the first ones of some bytes -/
theorem cut_first {w : World} {a : Option Addr} {n cap : Nat} {zs : List Int} (h : Sl .u8 w (.slice a n cap) zs) (m : Nat) (hm : m ≤ zs.length) :
    ∃ a' c', (∀ (kl : IntKind) (w1 : World), (Instr.slice 32 (.slice a n cap) none (some (.int kl (m : Int))) none).run Try.prog w1 = .ok (.slice a' m c') w1) ∧ Sl .u8 w (.slice a' m c') (zs.take m) ∧ ∀ g, (Value.slice a' m c').ownBlock = some g → (Value.slice a n cap).ownBlock = some g := by
  have hcap : zs.length ≤ cap := by obtain ⟨_, _, e, h, _⟩ := h; simp only [Value.slice.injEq] at e; obtain ⟨rfl, rfl, rfl⟩ := e; exact h
  have h2 := Sl.run_cut h 0 m (by omega) hm
  rw [List.drop_zero] at h2
  have e : sliced a 0 m cap 1 = .slice (if cap = 0 then a else a.map (·.add (0 * 1))) m (cap - 0) := by unfold sliced; rw [Nat.sub_zero]
  refine ⟨_, _, fun kl w1 => ?_, by rw [← e]; exact h2, fun g hg => sliced_own (l := 0) (h := m) (m := cap) (s := 1) (by rw [e]; exact hg) n cap⟩
  rw [run_slice_h w1 _ a n cap Try.sliceB20 kl (m : Int) (by omega) (by omega), Try.sizeB20]
  rw [← e]
  rfl
/-- the other ones -/
theorem cut_rest {w : World} {a : Option Addr} {n cap : Nat} {zs : List Int} (h : Sl .u8 w (.slice a n cap) zs) (m : Nat) (hm : m ≤ zs.length) :
    ∃ a' c', (∀ (kl : IntKind) (w1 : World), (Instr.slice 32 (.slice a n cap) (some (.int kl (m : Int))) none none).run Try.prog w1 = .ok (.slice a' (zs.length - m) c') w1) ∧ Sl .u8 w (.slice a' (zs.length - m) c') (zs.drop m) ∧ ∀ g, (Value.slice a' (zs.length - m) c').ownBlock = some g → (Value.slice a n cap).ownBlock = some g := by
  have hn : n = zs.length := by obtain ⟨_, _, e, _⟩ := h; simp only [Value.slice.injEq] at e; exact e.2.1
  have h2 := Sl.run_cut h m n (by omega) (by omega)
  rw [List.take_of_length_le (by omega)] at h2
  have e : sliced a m n cap 1 = .slice (if cap = m then a else a.map (·.add (m * 1))) (zs.length - m) (cap - m) := by unfold sliced; rw [hn]
  refine ⟨_, _, fun kl w1 => ?_, by rw [← e]; exact h2, fun g hg => sliced_own (l := m) (h := n) (m := cap) (s := 1) (by rw [e]; exact hg) n cap⟩
  rw [run_slice_l w1 _ a n cap Try.sliceB20 kl (m : Int) (by omega) (by omega), Try.sizeB20]
  rw [← e]
  rfl
/-- one cell of one stream is set: what a store wants, and what it leaves -/
theorem set_one {W : World} {R g c N k : Nat} {ys : List SmV} {q : Sd} {y y1 : SmV} {j1 : Nat} {u1 : Value} (h : RsObj W R (.slice (some ⟨g, 0, none⟩) N c) ys q) (hN : ys.length = N) (hy : ys[k]? = some y) (hj1 : j1 < 7) (e1 : smC y1 = (smC y).set j1 u1)
    (p1 : Sl .u8 W y1.hv y1.x.head ∧ Sl .u8 W y1.bv y1.x.b) (n1 : (y1.x.head ≠ [] → ∀ k, y1.hv.ownBlock = some k → k ≠ R ∧ g ≠ k) ∧ (y1.x.b ≠ [] → ∀ k, y1.bv.ownBlock = some k → k ≠ R ∧ g ≠ k)) :
    ((∃ v, W.cell? ⟨g, k * 7 + j1, none⟩ = some v) ∧ W.frozen? ⟨g, k * 7 + j1, none⟩ = false ∧ W.cell? ⟨R, 1, none⟩ = some (.slice (some ⟨g, 0, none⟩) N c) ∧ R < W.heap.size ∧ g < W.heap.size) ∧ RsObj (W.setCell ⟨g, k * 7 + j1, none⟩ u1) R (.slice (some ⟨g, 0, none⟩) N c) (ys.set k y1) { q with l := q.l.set k y1.x } ∧
      (ys.set k y1).length = N ∧ (ys.set k y1)[k]? = some y1 ∧ Turn (fun k => k = g) W (W.setCell ⟨g, k * 7 + j1, none⟩ u1) := by
  obtain ⟨g1, c1, e3, _, _, _, _, hgl, hfr, hcell⟩ := h.shape hy
  simp only [Value.slice.injEq, Option.some.injEq, Addr.mk.injEq, and_true] at e3
  obtain ⟨rfl, _, rfl⟩ := e3
  obtain ⟨s1, m1, t1, v1⟩ := h.setN hN hy hj1 e1 p1 n1
  exact ⟨⟨⟨_, by rw [hcell j1 hj1, List.getElem?_eq_getElem (by rw [smC_len]; exact hj1)]⟩, hfr _, h.blk.cells.2.1, h.blk.lt, hgl⟩, s1, m1, t1, v1⟩
/-- the three blocks that frame has laid, as they are in a world -/
structure Blk3 (w W : World) (y : SmV) (F : List Value) : Prop where
  z : W.heap[w.heap.size]? = some (.cells #[.int .i64 0, .int .i64 0, .int .i64 0, .slice none 0 0] 34 (0, 0))
  s : W.heap[w.heap.size + 1]? = some (.cells (smC y).toArray 72 (0, 0))
  f : W.heap[w.heap.size + 1 + 1]? = some (.cells F.toArray 34 (0, 0))
theorem Laid20.blk {w W : World} {y : SmV} {F : List Value} (h : Laid20 w W y F) : Blk3 w W y F := ⟨h.zero, h.sm, h.fr⟩
theorem Blk3.turn {w W W' : World} {y : SmV} {F : List Value} {g : Nat} (h : Blk3 w W y F) (ht : Turn (fun k => k = g) W W') (hg : g < w.heap.size) : Blk3 w W' y F := ⟨ht.obj h.z (by omega), ht.obj h.s (by omega), ht.obj h.f (by omega)⟩
theorem Blk3.below {w W W' : World} {y : SmV} {F : List Value} (h : Blk3 w W y F) (hb : Below W.heap.size W W') : Blk3 w W' y F :=
  ⟨(Turn.of_below hb (S := fun _ => False)).obj h.z id, (Turn.of_below hb (S := fun _ => False)).obj h.s id, (Turn.of_below hb (S := fun _ => False)).obj h.f id⟩
theorem Blk3.setF {w W : World} {y : SmV} {F : List Value} (h : Blk3 w W y F) (j : Nat) (u : Value) : Blk3 w (W.setCell ⟨w.heap.size + 1 + 1, j, none⟩ u) y (F.set j u) ∧ Turn (fun k => k = w.heap.size + 1 + 1) W (W.setCell ⟨w.heap.size + 1 + 1, j, none⟩ u) := by
  have ht := turn_set19 (W := W) (w.heap.size + 1 + 1) j u
  refine ⟨⟨ht.obj h.z (by omega), ht.obj h.s (by omega), ?_⟩, ht⟩
  have h1 := heap_setCell_same W (w.heap.size + 1 + 1) j _ _ u h.f
  rwa [List.setIfInBounds_toArray] at h1
theorem Blk3.sizes {w W : World} {y : SmV} {F : List Value} (h : Blk3 w W y F) : w.heap.size < W.heap.size ∧ w.heap.size + 1 < W.heap.size ∧ w.heap.size + 1 + 1 < W.heap.size := ⟨(Array.getElem?_eq_some_iff.1 h.z).1, (Array.getElem?_eq_some_iff.1 h.s).1, (Array.getElem?_eq_some_iff.1 h.f).1⟩
theorem set_same20 {α : Type} {l : List α} {k : Nat} {x : α} (h : l[k]? = some x) : l.set k x = l := by
  obtain ⟨hl, rfl⟩ := List.getElem?_eq_some_iff.1 h
  exact List.set_getElem_self hl
theorem wrap_mid20 {n : Int} (h1 : -9223372036854775808 ≤ n) (h2 : n < 9223372036854775808) : IntKind.i64.wrap n = n := by
  simp [IntKind.wrap, IntKind.bits, IntKind.signed]; omega
end Go.Proofs.Ytnoegbdmjinfjaa

/-
  Layer 20's reference: the sender, frame (written by wip/tools/gen20f.py).
-/
namespace Go.Proofs.Ytnoegbdmjinfjaa
set_option maxRecDepth 20000
open Go.RowKit

set_option maxHeartbeats 4000000 in
theorem rframe20_A1 (R : Nat) (lv : Value) (ys : List SmV) (q : Sd) (k : Nat) (y : SmV) (room most : Int) (w : World) (h : RsObj w R lv ys q) (hy : ys[k]? = some y) (hw : y.x.waits = true) (hf : y.x.fin = true) (hb : y.x.b = []) :
    Calls Try.prog 54 #[.pointer (some ⟨R, 0, none⟩), .int .i64 (k : Int), .int .i64 room, .int .i64 most] w fun e w' => Frm20 w R lv ys q k y room most e w' := by
  obtain ⟨g, c, elv, hk, hc1, hc2, hgR, hgl, hfr, hcell⟩ := h.shape hy
  unfold maxLen at hc2
  have HR := Lib.hid (show RsObj w R (.slice (some ⟨g, 0, none⟩) ys.length c) ys q from elv ▸ h)
  subst elv
  obtain ⟨⟨xi, xw, xh, xa, xs, xf, xb⟩, hv, bv⟩ := y
  have hpy := HR.out.pay _ (List.mem_of_getElem? hy)
  dsimp only at hpy hw hf hb
  obtain ⟨⟨ph, qh, rfl, _⟩, ⟨pb, pc, rfl, _⟩⟩ := hpy
  subst hw
  subst hf
  have d0 : ((xb.length : Int) == 0) = true := by rw [hb]; rfl
  have HY := Lib.hid hy
  have c0 := hcell 0 (by decide)
  have c1 := hcell 1 (by decide)
  have c2 := hcell 2 (by decide)
  have c3 := hcell 3 (by decide)
  have c4 := hcell 4 (by decide)
  have c5 := hcell 5 (by decide)
  have c6 := hcell 6 (by decide)
  simp only [smC, List.getElem?_cons_succ, List.getElem?_cons_zero, Nat.add_zero] at c0 c1 c2 c3 c4 c5 c6
  obtain ⟨f0, f1, f2⟩ := HR.out.blk.cells
  obtain ⟨N, hN⟩ : ∃ N, ys.length = N := ⟨_, rfl⟩
  have HN := Lib.hid hN
  rw [hN] at f1 hk hc1
  have hix := fun q => run_index_sl (P := Try.prog) (t := 62) (s := 7) Try.underlying62 (fun _ => by kernel_rfl) g 0 N c k hk q
  simp only [Nat.zero_add] at hix
  clear hcell hfr h hy hN
  obtain ⟨W3, hW3⟩ : ∃ W3, ((w.alloc (.cells #[.int .i64 0, .int .i64 0, .int .i64 0, .slice none 0 0] 34)).alloc (.cells #[.int .i64 xi, .int .i64 xw, .slice ph xh.length qh, .bool true, .bool xs, .bool true, .slice pb xb.length pc] 72)).alloc (.cells #[.int .i64 1, .int .i64 4, .int .i64 xi, .slice ph xh.length qh] 34) = W3 := ⟨_, rfl⟩
  have HL := Lib.hid (show Laid20 w W3 ⟨⟨xi, xw, xh, true, xs, true, xb⟩, .slice ph xh.length qh, .slice pb xb.length pc⟩ [.int .i64 1, .int .i64 4, .int .i64 xi, .slice ph xh.length qh] from ⟨hW3.symm⟩)
  have HR3 := Lib.hid (show RsObj W3 R (.slice (some ⟨g, 0, none⟩) N c) ys q from by rw [← HN.out]; exact HR.out.below HL.out.below)
  have HLw := Lib.hid (show w.heap.size = w.heap.size ∧ R < w.heap.size ∧ g < w.heap.size from ⟨rfl, f2, hgl⟩)
  have f3 := HR3.out.blk.cells.2.1
  have HE := Lib.hid (show frF ⟨xi, xw, xh, true, xs, true, xb⟩ room most = ⟨1, 5, xi, xh⟩ ∧ frO ⟨xi, xw, xh, true, xs, true, xb⟩ room most = true ∧ frX ⟨xi, xw, xh, true, xs, true, xb⟩ room most = ⟨xi, xw, [], false, xs, true, xb⟩ from by simp [frF, frO, frX, hb])
  have hpy := HR3.out.pay _ (List.mem_of_getElem? HY.out)
  have hnp := HR.out.np _ (List.mem_of_getElem? HY.out)
  dsimp only at hpy hnp
  have hn2 : xb ≠ [] → ∀ k, (Value.slice pb xb.length pc).ownBlock = some k → k ≠ R ∧ g ≠ k := fun h1 k hk => ⟨(hnp.2 h1 k hk).1, fun e => (hnp.2 h1 k hk).2 (by rw [← e]; rfl)⟩
  have hn1 : xh ≠ [] → ∀ k, (Value.slice ph xh.length qh).ownBlock = some k → k ≠ R ∧ g ≠ k := fun h1 k hk => ⟨(hnp.1 h1 k hk).1, fun e => (hnp.1 h1 k hk).2 (by rw [← e]; rfl)⟩
  have hs := set_two HR3.out HN.out HY.out (j1 := 3) (j2 := 2) (y1 := ⟨⟨xi, xw, xh, false, xs, true, xb⟩, .slice ph xh.length qh, .slice pb xb.length pc⟩) (y2 := ⟨⟨xi, xw, [], false, xs, true, xb⟩, .slice none 0 0, .slice pb xb.length pc⟩) (u1 := .bool false) (u2 := .slice none 0 0) (by decide) (by decide) rfl rfl hpy ⟨hn1, hn2⟩ (fun W' ht => ⟨Sl.nil _ _, hpy.2.turn0 ht (fun h1 k hk e => (hn2 h1 k hk).2 e.symm)⟩) ⟨fun h1 => absurd rfl h1, hn2⟩
  obtain ⟨W4, hW4⟩ : ∃ W4, W3.setCell ⟨g, k * 7 + 3, none⟩ (.bool false) = W4 := ⟨_, rfl⟩
  rw [hW4] at hs
  obtain ⟨W5, hW5⟩ : ∃ W5, W4.setCell ⟨g, k * 7 + 2, none⟩ (.slice none 0 0) = W5 := ⟨_, rfl⟩
  rw [hW5] at hs
  obtain ⟨⟨i1, i2, i3, i4, i5⟩, ⟨i6, i7, i8, i9, i10⟩, s5, t4, t5⟩ := hs
  obtain ⟨v1, i1⟩ := Option.isSome_iff_exists.1 i1
  obtain ⟨v2, i7⟩ := Option.isSome_iff_exists.1 i7
  have HS5 := Lib.hid (And.intro s5 t5)
  have HG := Lib.hid (show W5.heap[w.heap.size]? = some (.cells #[.int .i64 0, .int .i64 0, .int .i64 0, .slice none 0 0] 34 (0, 0)) ∧ W5.heap[w.heap.size + 1]? = some (.cells #[.int .i64 xi, .int .i64 xw, .slice ph xh.length qh, .bool true, .bool xs, .bool true, .slice pb xb.length pc] 72 (0, 0)) ∧ W5.heap[w.heap.size + 1 + 1]? = some (.cells #[.int .i64 1, .int .i64 4, .int .i64 xi, .slice ph xh.length qh] 34 (0, 0)) from
    ⟨t5.obj HL.out.zero (by omega), t5.obj HL.out.sm (by omega), t5.obj HL.out.fr (by omega)⟩)
  have z5 := blk_cell (j := 5) HG.out.2.1 rfl
  have z6 := blk_cell (j := 6) HG.out.2.1 rfl
  have z7 := (Array.getElem?_eq_some_iff.1 HG.out.2.1).1
  have HG6 := Lib.hid (heap_setCell_same W5 (w.heap.size + 1 + 1) 1 _ _ (.int .i64 5) HG.out.2.2)
  have t6 : Turn (fun k => k = w.heap.size + 1 + 1) W5 (W5.setCell ⟨w.heap.size + 1 + 1, 1, none⟩ (.int .i64 5)) := turn_set19 _ _ _
  have e1 := blk_cell (j := 1) HG.out.2.2 rfl
  have e2 : W5.frozen? ⟨w.heap.size + 1 + 1, 1, none⟩ = false := blk_free HG.out.2.2
  obtain ⟨W6, hW6⟩ : ∃ W6, W5.setCell ⟨w.heap.size + 1 + 1, 1, none⟩ (.int .i64 5) = W6 := ⟨_, rfl⟩
  rw [hW6] at HG6 t6
  have HT6 := Lib.hid t6
  have HG8 := Lib.hid (t6.obj HG.out.1 (by omega))
  have y0 := blk_cell (j := 0) HG6.out rfl
  have y1 := blk_cell (j := 1) HG6.out rfl
  have y2 := blk_cell (j := 2) HG6.out rfl
  have y3 := blk_cell (j := 3) HG6.out rfl
  have y4 := (Array.getElem?_eq_some_iff.1 HG6.out).1
  clear hpy hnp hn1 hn2 s5 t4 t5 t6 hb
  go_enter Try.func54, Try.ntmps54
  go_wp2_with (refine store_fr13 rfl (.tmp 8) (.tmp 53) rfl w.heap.size ⟨1, 5, xi, xh⟩ ph xh.length qh _ rfl rfl HG8.out rfl ?_)
  have HZ := Lib.hid (setRow_heap _ _ _ #[.int .i64 1, .int .i64 5, .int .i64 xi, .slice ph xh.length qh] _ _ HG8.out)
  have HTz := Lib.hid (show Turn (fun k => k = w.heap.size) W6 (W6.setRow w.heap.size #[.int .i64 1, .int .i64 5, .int .i64 xi, .slice ph xh.length qh]) from Turn.of_grown (setRow_grown _ _ _))
  generalize W6.setRow w.heap.size #[.int .i64 1, .int .i64 5, .int .i64 xi, .slice ph xh.length qh] = W9 at HZ HTz ⊢
  refine bodyPost_ret (results_row_tmp1 rfl _ _ w.heap.size 34 #[.int .i64 1, .int .i64 5, .int .i64 xi, .slice ph xh.length qh] (0, 0) _ rfl HZ.out Try.underlying34 rfl (by kernel_rfl)) rfl ?_
  have hn := HLw.out
  have HT9 : Turn (fun k => w.heap.size ≤ k) W5 W9 := ((HT6.out.mono (fun k _ e => by have e' : k = w.heap.size + 1 + 1 := e; omega)).trans (HTz.out.mono (fun k _ e => by have e' : k = w.heap.size := e; omega)))
  have ht : Turn (fun k => k = g) w W9 := ((Turn.of_below HL.out.below).trans HS5.out.2).trans' HT9 (fun k hk e => by have e' : w.heap.size ≤ k := e; omega)
  have hn0 := HR.out.np _ (List.mem_of_getElem? HY.out)
  have hp0 := HR.out.pay _ (List.mem_of_getElem? HY.out)
  dsimp only at hn0 hp0
  unfold Frm20
  dsimp only
  rw [HE.out.1, HE.out.2.1, HE.out.2.2]
  refine ⟨_, .slice none 0 0, .slice pb xb.length pc, rfl, hp0.1.turn0 ht (fun h1 k hk e => (hn0.1 h1 k hk).2 (by rw [show k = g from e]; rfl)), fun h1 g hg => .inl ⟨h1, hg⟩, ?_, ht.mono (fun k _ e => by rw [show k = g from e]; rfl), fun h1 => absurd rfl h1, fun h1 g hg => ⟨h1, hg⟩⟩
  have hh := HS5.out.1.high ((HN.out ▸ HR.out.lows).set k ⟨fun h1 => absurd rfl h1, fun h1 g hg => hp0.2.lt0 h1 hg⟩) HT9 (fun _ e => e)
  rw [HN.out]
  exact hh
set_option maxHeartbeats 4000000 in
theorem rframe20_A2 (R : Nat) (lv : Value) (ys : List SmV) (q : Sd) (k : Nat) (y : SmV) (room most : Int) (w : World) (h : RsObj w R lv ys q) (hy : ys[k]? = some y) (hw : y.x.waits = true) (hf : y.x.fin = false) :
    Calls Try.prog 54 #[.pointer (some ⟨R, 0, none⟩), .int .i64 (k : Int), .int .i64 room, .int .i64 most] w fun e w' => Frm20 w R lv ys q k y room most e w' := by
  obtain ⟨g, c, elv, hk, hc1, hc2, hgR, hgl, hfr, hcell⟩ := h.shape hy
  unfold maxLen at hc2
  have HR := Lib.hid (show RsObj w R (.slice (some ⟨g, 0, none⟩) ys.length c) ys q from elv ▸ h)
  subst elv
  obtain ⟨⟨xi, xw, xh, xa, xs, xf, xb⟩, hv, bv⟩ := y
  have hpy := HR.out.pay _ (List.mem_of_getElem? hy)
  dsimp only at hpy hw hf
  obtain ⟨⟨ph, qh, rfl, _⟩, ⟨pb, pc, rfl, _⟩⟩ := hpy
  subst hw
  subst hf
  have HY := Lib.hid hy
  have c0 := hcell 0 (by decide)
  have c1 := hcell 1 (by decide)
  have c2 := hcell 2 (by decide)
  have c3 := hcell 3 (by decide)
  have c4 := hcell 4 (by decide)
  have c5 := hcell 5 (by decide)
  have c6 := hcell 6 (by decide)
  simp only [smC, List.getElem?_cons_succ, List.getElem?_cons_zero, Nat.add_zero] at c0 c1 c2 c3 c4 c5 c6
  obtain ⟨f0, f1, f2⟩ := HR.out.blk.cells
  obtain ⟨N, hN⟩ : ∃ N, ys.length = N := ⟨_, rfl⟩
  have HN := Lib.hid hN
  rw [hN] at f1 hk hc1
  have hix := fun q => run_index_sl (P := Try.prog) (t := 62) (s := 7) Try.underlying62 (fun _ => by kernel_rfl) g 0 N c k hk q
  simp only [Nat.zero_add] at hix
  clear hcell hfr h hy hN
  obtain ⟨W3, hW3⟩ : ∃ W3, ((w.alloc (.cells #[.int .i64 0, .int .i64 0, .int .i64 0, .slice none 0 0] 34)).alloc (.cells #[.int .i64 xi, .int .i64 xw, .slice ph xh.length qh, .bool true, .bool xs, .bool false, .slice pb xb.length pc] 72)).alloc (.cells #[.int .i64 1, .int .i64 4, .int .i64 xi, .slice ph xh.length qh] 34) = W3 := ⟨_, rfl⟩
  have HL := Lib.hid (show Laid20 w W3 ⟨⟨xi, xw, xh, true, xs, false, xb⟩, .slice ph xh.length qh, .slice pb xb.length pc⟩ [.int .i64 1, .int .i64 4, .int .i64 xi, .slice ph xh.length qh] from ⟨hW3.symm⟩)
  have HR3 := Lib.hid (show RsObj W3 R (.slice (some ⟨g, 0, none⟩) N c) ys q from by rw [← HN.out]; exact HR.out.below HL.out.below)
  have HLw := Lib.hid (show w.heap.size = w.heap.size ∧ R < w.heap.size ∧ g < w.heap.size from ⟨rfl, f2, hgl⟩)
  have f3 := HR3.out.blk.cells.2.1
  have HE := Lib.hid (show frF ⟨xi, xw, xh, true, xs, false, xb⟩ room most = ⟨1, 4, xi, xh⟩ ∧ frO ⟨xi, xw, xh, true, xs, false, xb⟩ room most = true ∧ frX ⟨xi, xw, xh, true, xs, false, xb⟩ room most = ⟨xi, xw, [], false, xs, false, xb⟩ from by simp [frF, frO, frX])
  have hpy := HR3.out.pay _ (List.mem_of_getElem? HY.out)
  have hnp := HR.out.np _ (List.mem_of_getElem? HY.out)
  dsimp only at hpy hnp
  have hn2 : xb ≠ [] → ∀ k, (Value.slice pb xb.length pc).ownBlock = some k → k ≠ R ∧ g ≠ k := fun h1 k hk => ⟨(hnp.2 h1 k hk).1, fun e => (hnp.2 h1 k hk).2 (by rw [← e]; rfl)⟩
  have hn1 : xh ≠ [] → ∀ k, (Value.slice ph xh.length qh).ownBlock = some k → k ≠ R ∧ g ≠ k := fun h1 k hk => ⟨(hnp.1 h1 k hk).1, fun e => (hnp.1 h1 k hk).2 (by rw [← e]; rfl)⟩
  have hs := set_two HR3.out HN.out HY.out (j1 := 3) (j2 := 2) (y1 := ⟨⟨xi, xw, xh, false, xs, false, xb⟩, .slice ph xh.length qh, .slice pb xb.length pc⟩) (y2 := ⟨⟨xi, xw, [], false, xs, false, xb⟩, .slice none 0 0, .slice pb xb.length pc⟩) (u1 := .bool false) (u2 := .slice none 0 0) (by decide) (by decide) rfl rfl hpy ⟨hn1, hn2⟩ (fun W' ht => ⟨Sl.nil _ _, hpy.2.turn0 ht (fun h1 k hk e => (hn2 h1 k hk).2 e.symm)⟩) ⟨fun h1 => absurd rfl h1, hn2⟩
  obtain ⟨W4, hW4⟩ : ∃ W4, W3.setCell ⟨g, k * 7 + 3, none⟩ (.bool false) = W4 := ⟨_, rfl⟩
  rw [hW4] at hs
  obtain ⟨W5, hW5⟩ : ∃ W5, W4.setCell ⟨g, k * 7 + 2, none⟩ (.slice none 0 0) = W5 := ⟨_, rfl⟩
  rw [hW5] at hs
  obtain ⟨⟨i1, i2, i3, i4, i5⟩, ⟨i6, i7, i8, i9, i10⟩, s5, t4, t5⟩ := hs
  obtain ⟨v1, i1⟩ := Option.isSome_iff_exists.1 i1
  obtain ⟨v2, i7⟩ := Option.isSome_iff_exists.1 i7
  have HS5 := Lib.hid (And.intro s5 t5)
  have HG := Lib.hid (show W5.heap[w.heap.size]? = some (.cells #[.int .i64 0, .int .i64 0, .int .i64 0, .slice none 0 0] 34 (0, 0)) ∧ W5.heap[w.heap.size + 1]? = some (.cells #[.int .i64 xi, .int .i64 xw, .slice ph xh.length qh, .bool true, .bool xs, .bool false, .slice pb xb.length pc] 72 (0, 0)) ∧ W5.heap[w.heap.size + 1 + 1]? = some (.cells #[.int .i64 1, .int .i64 4, .int .i64 xi, .slice ph xh.length qh] 34 (0, 0)) from
    ⟨t5.obj HL.out.zero (by omega), t5.obj HL.out.sm (by omega), t5.obj HL.out.fr (by omega)⟩)
  have z5 := blk_cell (j := 5) HG.out.2.1 rfl
  have z6 := blk_cell (j := 6) HG.out.2.1 rfl
  have z7 := (Array.getElem?_eq_some_iff.1 HG.out.2.1).1
  have HG8 := Lib.hid HG.out.1
  have y0 := blk_cell (j := 0) HG.out.2.2 rfl
  have y1 := blk_cell (j := 1) HG.out.2.2 rfl
  have y2 := blk_cell (j := 2) HG.out.2.2 rfl
  have y3 := blk_cell (j := 3) HG.out.2.2 rfl
  have y4 := (Array.getElem?_eq_some_iff.1 HG.out.2.2).1
  clear hpy hnp hn1 hn2 s5 t4 t5
  go_enter Try.func54, Try.ntmps54
  go_wp2_with (refine store_fr13 rfl (.tmp 8) (.tmp 53) rfl w.heap.size ⟨1, 4, xi, xh⟩ ph xh.length qh _ rfl rfl HG8.out rfl ?_)
  have HZ := Lib.hid (setRow_heap _ _ _ #[.int .i64 1, .int .i64 4, .int .i64 xi, .slice ph xh.length qh] _ _ HG8.out)
  have HTz := Lib.hid (show Turn (fun k => k = w.heap.size) W5 (W5.setRow w.heap.size #[.int .i64 1, .int .i64 4, .int .i64 xi, .slice ph xh.length qh]) from Turn.of_grown (setRow_grown _ _ _))
  generalize W5.setRow w.heap.size #[.int .i64 1, .int .i64 4, .int .i64 xi, .slice ph xh.length qh] = W9 at HZ HTz ⊢
  refine bodyPost_ret (results_row_tmp1 rfl _ _ w.heap.size 34 #[.int .i64 1, .int .i64 4, .int .i64 xi, .slice ph xh.length qh] (0, 0) _ rfl HZ.out Try.underlying34 rfl (by kernel_rfl)) rfl ?_
  have hn := HLw.out
  have HT9 : Turn (fun k => w.heap.size ≤ k) W5 W9 := (HTz.out.mono (fun k _ e => by have e' : k = w.heap.size := e; omega))
  have ht : Turn (fun k => k = g) w W9 := ((Turn.of_below HL.out.below).trans HS5.out.2).trans' HT9 (fun k hk e => by have e' : w.heap.size ≤ k := e; omega)
  have hn0 := HR.out.np _ (List.mem_of_getElem? HY.out)
  have hp0 := HR.out.pay _ (List.mem_of_getElem? HY.out)
  dsimp only at hn0 hp0
  unfold Frm20
  dsimp only
  rw [HE.out.1, HE.out.2.1, HE.out.2.2]
  refine ⟨_, .slice none 0 0, .slice pb xb.length pc, rfl, hp0.1.turn0 ht (fun h1 k hk e => (hn0.1 h1 k hk).2 (by rw [show k = g from e]; rfl)), fun h1 g hg => .inl ⟨h1, hg⟩, ?_, ht.mono (fun k _ e => by rw [show k = g from e]; rfl), fun h1 => absurd rfl h1, fun h1 g hg => ⟨h1, hg⟩⟩
  have hh := HS5.out.1.high ((HN.out ▸ HR.out.lows).set k ⟨fun h1 => absurd rfl h1, fun h1 g hg => hp0.2.lt0 h1 hg⟩) HT9 (fun _ e => e)
  rw [HN.out]
  exact hh
set_option maxHeartbeats 4000000 in
theorem rframe20_A3 (R : Nat) (lv : Value) (ys : List SmV) (q : Sd) (k : Nat) (y : SmV) (room most : Int) (w : World) (h : RsObj w R lv ys q) (hy : ys[k]? = some y) (hw : y.x.waits = true) (hf : y.x.fin = true) (hb : y.x.b ≠ []) :
    Calls Try.prog 54 #[.pointer (some ⟨R, 0, none⟩), .int .i64 (k : Int), .int .i64 room, .int .i64 most] w fun e w' => Frm20 w R lv ys q k y room most e w' := by
  obtain ⟨g, c, elv, hk, hc1, hc2, hgR, hgl, hfr, hcell⟩ := h.shape hy
  unfold maxLen at hc2
  have HR := Lib.hid (show RsObj w R (.slice (some ⟨g, 0, none⟩) ys.length c) ys q from elv ▸ h)
  subst elv
  obtain ⟨⟨xi, xw, xh, xa, xs, xf, xb⟩, hv, bv⟩ := y
  have hpy := HR.out.pay _ (List.mem_of_getElem? hy)
  dsimp only at hpy hw hf hb
  obtain ⟨⟨ph, qh, rfl, _⟩, ⟨pb, pc, rfl, _⟩⟩ := hpy
  subst hw
  subst hf
  have d0 : ((xb.length : Int) == 0) = false := by have := List.length_pos_iff.2 hb; rw [beq_eq_false_iff_ne]; omega
  have HY := Lib.hid hy
  have c0 := hcell 0 (by decide)
  have c1 := hcell 1 (by decide)
  have c2 := hcell 2 (by decide)
  have c3 := hcell 3 (by decide)
  have c4 := hcell 4 (by decide)
  have c5 := hcell 5 (by decide)
  have c6 := hcell 6 (by decide)
  simp only [smC, List.getElem?_cons_succ, List.getElem?_cons_zero, Nat.add_zero] at c0 c1 c2 c3 c4 c5 c6
  obtain ⟨f0, f1, f2⟩ := HR.out.blk.cells
  obtain ⟨N, hN⟩ : ∃ N, ys.length = N := ⟨_, rfl⟩
  have HN := Lib.hid hN
  rw [hN] at f1 hk hc1
  have hix := fun q => run_index_sl (P := Try.prog) (t := 62) (s := 7) Try.underlying62 (fun _ => by kernel_rfl) g 0 N c k hk q
  simp only [Nat.zero_add] at hix
  clear hcell hfr h hy hN
  obtain ⟨W3, hW3⟩ : ∃ W3, ((w.alloc (.cells #[.int .i64 0, .int .i64 0, .int .i64 0, .slice none 0 0] 34)).alloc (.cells #[.int .i64 xi, .int .i64 xw, .slice ph xh.length qh, .bool true, .bool xs, .bool true, .slice pb xb.length pc] 72)).alloc (.cells #[.int .i64 1, .int .i64 4, .int .i64 xi, .slice ph xh.length qh] 34) = W3 := ⟨_, rfl⟩
  have HL := Lib.hid (show Laid20 w W3 ⟨⟨xi, xw, xh, true, xs, true, xb⟩, .slice ph xh.length qh, .slice pb xb.length pc⟩ [.int .i64 1, .int .i64 4, .int .i64 xi, .slice ph xh.length qh] from ⟨hW3.symm⟩)
  have HR3 := Lib.hid (show RsObj W3 R (.slice (some ⟨g, 0, none⟩) N c) ys q from by rw [← HN.out]; exact HR.out.below HL.out.below)
  have HLw := Lib.hid (show w.heap.size = w.heap.size ∧ R < w.heap.size ∧ g < w.heap.size from ⟨rfl, f2, hgl⟩)
  have f3 := HR3.out.blk.cells.2.1
  have HE := Lib.hid (show frF ⟨xi, xw, xh, true, xs, true, xb⟩ room most = ⟨1, 4, xi, xh⟩ ∧ frO ⟨xi, xw, xh, true, xs, true, xb⟩ room most = true ∧ frX ⟨xi, xw, xh, true, xs, true, xb⟩ room most = ⟨xi, xw, [], false, xs, true, xb⟩ from by simp [frF, frO, frX, hb])
  have hpy := HR3.out.pay _ (List.mem_of_getElem? HY.out)
  have hnp := HR.out.np _ (List.mem_of_getElem? HY.out)
  dsimp only at hpy hnp
  have hn2 : xb ≠ [] → ∀ k, (Value.slice pb xb.length pc).ownBlock = some k → k ≠ R ∧ g ≠ k := fun h1 k hk => ⟨(hnp.2 h1 k hk).1, fun e => (hnp.2 h1 k hk).2 (by rw [← e]; rfl)⟩
  have hn1 : xh ≠ [] → ∀ k, (Value.slice ph xh.length qh).ownBlock = some k → k ≠ R ∧ g ≠ k := fun h1 k hk => ⟨(hnp.1 h1 k hk).1, fun e => (hnp.1 h1 k hk).2 (by rw [← e]; rfl)⟩
  have hs := set_two HR3.out HN.out HY.out (j1 := 3) (j2 := 2) (y1 := ⟨⟨xi, xw, xh, false, xs, true, xb⟩, .slice ph xh.length qh, .slice pb xb.length pc⟩) (y2 := ⟨⟨xi, xw, [], false, xs, true, xb⟩, .slice none 0 0, .slice pb xb.length pc⟩) (u1 := .bool false) (u2 := .slice none 0 0) (by decide) (by decide) rfl rfl hpy ⟨hn1, hn2⟩ (fun W' ht => ⟨Sl.nil _ _, hpy.2.turn0 ht (fun h1 k hk e => (hn2 h1 k hk).2 e.symm)⟩) ⟨fun h1 => absurd rfl h1, hn2⟩
  obtain ⟨W4, hW4⟩ : ∃ W4, W3.setCell ⟨g, k * 7 + 3, none⟩ (.bool false) = W4 := ⟨_, rfl⟩
  rw [hW4] at hs
  obtain ⟨W5, hW5⟩ : ∃ W5, W4.setCell ⟨g, k * 7 + 2, none⟩ (.slice none 0 0) = W5 := ⟨_, rfl⟩
  rw [hW5] at hs
  obtain ⟨⟨i1, i2, i3, i4, i5⟩, ⟨i6, i7, i8, i9, i10⟩, s5, t4, t5⟩ := hs
  obtain ⟨v1, i1⟩ := Option.isSome_iff_exists.1 i1
  obtain ⟨v2, i7⟩ := Option.isSome_iff_exists.1 i7
  have HS5 := Lib.hid (And.intro s5 t5)
  have HG := Lib.hid (show W5.heap[w.heap.size]? = some (.cells #[.int .i64 0, .int .i64 0, .int .i64 0, .slice none 0 0] 34 (0, 0)) ∧ W5.heap[w.heap.size + 1]? = some (.cells #[.int .i64 xi, .int .i64 xw, .slice ph xh.length qh, .bool true, .bool xs, .bool true, .slice pb xb.length pc] 72 (0, 0)) ∧ W5.heap[w.heap.size + 1 + 1]? = some (.cells #[.int .i64 1, .int .i64 4, .int .i64 xi, .slice ph xh.length qh] 34 (0, 0)) from
    ⟨t5.obj HL.out.zero (by omega), t5.obj HL.out.sm (by omega), t5.obj HL.out.fr (by omega)⟩)
  have z5 := blk_cell (j := 5) HG.out.2.1 rfl
  have z6 := blk_cell (j := 6) HG.out.2.1 rfl
  have z7 := (Array.getElem?_eq_some_iff.1 HG.out.2.1).1
  have HG8 := Lib.hid HG.out.1
  have y0 := blk_cell (j := 0) HG.out.2.2 rfl
  have y1 := blk_cell (j := 1) HG.out.2.2 rfl
  have y2 := blk_cell (j := 2) HG.out.2.2 rfl
  have y3 := blk_cell (j := 3) HG.out.2.2 rfl
  have y4 := (Array.getElem?_eq_some_iff.1 HG.out.2.2).1
  clear hpy hnp hn1 hn2 s5 t4 t5 hb
  go_enter Try.func54, Try.ntmps54
  go_wp2_with (refine store_fr13 rfl (.tmp 8) (.tmp 53) rfl w.heap.size ⟨1, 4, xi, xh⟩ ph xh.length qh _ rfl rfl HG8.out rfl ?_)
  have HZ := Lib.hid (setRow_heap _ _ _ #[.int .i64 1, .int .i64 4, .int .i64 xi, .slice ph xh.length qh] _ _ HG8.out)
  have HTz := Lib.hid (show Turn (fun k => k = w.heap.size) W5 (W5.setRow w.heap.size #[.int .i64 1, .int .i64 4, .int .i64 xi, .slice ph xh.length qh]) from Turn.of_grown (setRow_grown _ _ _))
  generalize W5.setRow w.heap.size #[.int .i64 1, .int .i64 4, .int .i64 xi, .slice ph xh.length qh] = W9 at HZ HTz ⊢
  refine bodyPost_ret (results_row_tmp1 rfl _ _ w.heap.size 34 #[.int .i64 1, .int .i64 4, .int .i64 xi, .slice ph xh.length qh] (0, 0) _ rfl HZ.out Try.underlying34 rfl (by kernel_rfl)) rfl ?_
  have hn := HLw.out
  have HT9 : Turn (fun k => w.heap.size ≤ k) W5 W9 := (HTz.out.mono (fun k _ e => by have e' : k = w.heap.size := e; omega))
  have ht : Turn (fun k => k = g) w W9 := ((Turn.of_below HL.out.below).trans HS5.out.2).trans' HT9 (fun k hk e => by have e' : w.heap.size ≤ k := e; omega)
  have hn0 := HR.out.np _ (List.mem_of_getElem? HY.out)
  have hp0 := HR.out.pay _ (List.mem_of_getElem? HY.out)
  dsimp only at hn0 hp0
  unfold Frm20
  dsimp only
  rw [HE.out.1, HE.out.2.1, HE.out.2.2]
  refine ⟨_, .slice none 0 0, .slice pb xb.length pc, rfl, hp0.1.turn0 ht (fun h1 k hk e => (hn0.1 h1 k hk).2 (by rw [show k = g from e]; rfl)), fun h1 g hg => .inl ⟨h1, hg⟩, ?_, ht.mono (fun k _ e => by rw [show k = g from e]; rfl), fun h1 => absurd rfl h1, fun h1 g hg => ⟨h1, hg⟩⟩
  have hh := HS5.out.1.high ((HN.out ▸ HR.out.lows).set k ⟨fun h1 => absurd rfl h1, fun h1 g hg => hp0.2.lt0 h1 hg⟩) HT9 (fun _ e => e)
  rw [HN.out]
  exact hh
set_option maxHeartbeats 4000000 in
theorem rframe20_B (R : Nat) (lv : Value) (ys : List SmV) (q : Sd) (k : Nat) (y : SmV) (room most : Int) (w : World) (h : RsObj w R lv ys q) (hy : ys[k]? = some y) (hw : y.x.waits = false) (hb : y.x.b = []) :
    Calls Try.prog 54 #[.pointer (some ⟨R, 0, none⟩), .int .i64 (k : Int), .int .i64 room, .int .i64 most] w fun e w' => Frm20 w R lv ys q k y room most e w' := by
  obtain ⟨g, c, elv, hk, hc1, hc2, hgR, hgl, hfr, hcell⟩ := h.shape hy
  unfold maxLen at hc2
  have HR := Lib.hid (show RsObj w R (.slice (some ⟨g, 0, none⟩) ys.length c) ys q from elv ▸ h)
  subst elv
  obtain ⟨⟨xi, xw, xh, xa, xs, xf, xb⟩, hv, bv⟩ := y
  have hpy := HR.out.pay _ (List.mem_of_getElem? hy)
  dsimp only at hpy hw hb
  obtain ⟨⟨ph, qh, rfl, _⟩, ⟨pb, pc, rfl, _⟩⟩ := hpy
  subst hw
  have d0 : ((xb.length : Int) == 0) = true := by rw [hb]; rfl
  have HY := Lib.hid hy
  have c0 := hcell 0 (by decide)
  have c1 := hcell 1 (by decide)
  have c2 := hcell 2 (by decide)
  have c3 := hcell 3 (by decide)
  have c4 := hcell 4 (by decide)
  have c5 := hcell 5 (by decide)
  have c6 := hcell 6 (by decide)
  simp only [smC, List.getElem?_cons_succ, List.getElem?_cons_zero, Nat.add_zero] at c0 c1 c2 c3 c4 c5 c6
  obtain ⟨f0, f1, f2⟩ := HR.out.blk.cells
  obtain ⟨N, hN⟩ : ∃ N, ys.length = N := ⟨_, rfl⟩
  have HN := Lib.hid hN
  rw [hN] at f1 hk hc1
  have hix := fun q => run_index_sl (P := Try.prog) (t := 62) (s := 7) Try.underlying62 (fun _ => by kernel_rfl) g 0 N c k hk q
  simp only [Nat.zero_add] at hix
  clear hcell hfr h hy hN
  obtain ⟨W3, hW3⟩ : ∃ W3, ((w.alloc (.cells #[.int .i64 0, .int .i64 0, .int .i64 0, .slice none 0 0] 34)).alloc (.cells #[.int .i64 xi, .int .i64 xw, .slice ph xh.length qh, .bool false, .bool xs, .bool xf, .slice pb xb.length pc] 72)).alloc (.cells #[.int .i64 0, .int .i64 1, .int .i64 xi, .slice none 0 0] 34) = W3 := ⟨_, rfl⟩
  have HL := Lib.hid (show Laid20 w W3 ⟨⟨xi, xw, xh, false, xs, xf, xb⟩, .slice ph xh.length qh, .slice pb xb.length pc⟩ [.int .i64 0, .int .i64 1, .int .i64 xi, .slice none 0 0] from ⟨hW3.symm⟩)
  have HR3 := Lib.hid (show RsObj W3 R (.slice (some ⟨g, 0, none⟩) N c) ys q from by rw [← HN.out]; exact HR.out.below HL.out.below)
  have HLw := Lib.hid (show w.heap.size = w.heap.size ∧ R < w.heap.size ∧ g < w.heap.size from ⟨rfl, f2, hgl⟩)
  have f3 := HR3.out.blk.cells.2.1
  have HE := Lib.hid (show frF ⟨xi, xw, xh, false, xs, xf, xb⟩ room most = ⟨0, 1, xi, []⟩ ∧ frO ⟨xi, xw, xh, false, xs, xf, xb⟩ room most = xf ∧ frX ⟨xi, xw, xh, false, xs, xf, xb⟩ room most = ⟨xi, xw, xh, false, xs, xf, xb⟩ from by simp [frF, frO, frX, hb])
  have z5 := blk_cell (j := 5) HL.out.sm rfl
  have z6 := blk_cell (j := 6) HL.out.sm rfl
  have z7 := (Array.getElem?_eq_some_iff.1 HL.out.sm).1
  clear hb
  go_enter Try.func54, Try.ntmps54
  go_wp2_with fail
  refine wp_region_held (S := fun w' => w'.heap[w.heap.size + 1 + 1]? = some (.cells #[.int .i64 0, .int .i64 1, .int .i64 xi, .slice none 0 0] 34 (0, 0)) ∧ w'.cell? ⟨w.heap.size + 1, 5, none⟩ = some (.bool xf)) (by kernel_rfl) ?_
  have s1 : ({ W3 with drawn := W3.drawn + 1 } : World).heap[w.heap.size + 1 + 1]? = some (.cells #[.int .i64 0, .int .i64 1, .int .i64 xi, .slice none 0 0] 34 (0, 0)) ∧ ({ W3 with drawn := W3.drawn + 1 } : World).cell? ⟨w.heap.size + 1, 5, none⟩ = some (.bool xf) := ⟨HL.out.fr, z5⟩
  have HQ := Lib.hid (show Below w.heap.size w ({ W3 with drawn := W3.drawn + 1 } : World) ∧ ({ W3 with drawn := W3.drawn + 1 } : World).heap[w.heap.size]? = some (.cells #[.int .i64 0, .int .i64 0, .int .i64 0, .slice none 0 0] 34 (0, 0)) from ⟨HL.out.below.drew, HL.out.zero⟩)
  clear hW3 z5 z6 z7 f3
  generalize ({ W3 with drawn := W3.drawn + 1 } : World) = W4 at s1 HQ ⊢
  refine wpAnyH_early 0 59 (.agg #[.int .i64 0, .int .i64 1, .int .i64 xi, .slice none 0 0]) (by kernel_rfl) (by kernel_rfl) (by kernel_rfl) (fun _ _ _ h => h) rfl (fun o ho => by obtain rfl := Option.some.inj ho; exact .inl ⟨rfl, fun W hS => by have q0 := blk_cell (j := 0) hS.1 rfl; have q1 := blk_cell (j := 1) hS.1 rfl; have q2 := blk_cell (j := 2) hS.1 rfl; have q3 := blk_cell (j := 3) hS.1 rfl; have q4 := (Array.getElem?_eq_some_iff.1 hS.1).1; simp [execOp, go_sem, q0, q1, q2, q3]⟩) s1 ?_
  simp only [Act.put, List.setIfInBounds_toArray, List.set_cons_zero, List.set_cons_succ]
  refine wpAnyH_early 1 60 (.pointer (some ⟨w.heap.size + 1, 5, none⟩)) (by kernel_rfl) (by kernel_rfl) (by kernel_rfl) (fun _ _ _ h => h) rfl (fun o ho => by obtain rfl := Option.some.inj ho; exact .inl ⟨rfl, fun W hS => rfl⟩) s1 ?_
  simp only [Act.put, List.setIfInBounds_toArray, List.set_cons_zero, List.set_cons_succ]
  refine wpAnyH_early 2 61 (.bool xf) (by kernel_rfl) (by kernel_rfl) (by kernel_rfl) (fun _ _ _ h => h) rfl (fun o ho => by obtain rfl := Option.some.inj ho; exact .inl ⟨rfl, fun W hS => by simp [execOp, go_sem, hS.2]⟩) s1 ?_
  simp only [Act.put, List.setIfInBounds_toArray, List.set_cons_zero, List.set_cons_succ]
  refine wpAnyH_only 3 (by kernel_rfl) rfl (fun o ho => ?_)
  obtain rfl := Option.some.inj ho
  have s2 : (W4.setRow w.heap.size #[.int .i64 0, .int .i64 1, .int .i64 xi, .slice none 0 0]).heap[w.heap.size + 1 + 1]? = some (.cells #[.int .i64 0, .int .i64 1, .int .i64 xi, .slice none 0 0] 34 (0, 0)) ∧ (W4.setRow w.heap.size #[.int .i64 0, .int .i64 1, .int .i64 xi, .slice none 0 0]).cell? ⟨w.heap.size + 1, 5, none⟩ = some (.bool xf) :=
    ⟨(setRow_other _ _ _ _ (by omega)).trans s1.1, (cell_setRow_other _ _ _ _ (by show w.heap.size + 1 ≠ w.heap.size; omega)).trans s1.2⟩
  refine wp_fr13 rfl (.tmp 8) (.tmp 59) rfl w.heap.size ⟨0, 1, xi, []⟩ none 0 0 _ rfl rfl HQ.out.2 rfl ⟨s2, ?_⟩
  have HZ := Lib.hid (setRow_heap _ _ _ #[.int .i64 0, .int .i64 1, .int .i64 xi, .slice none 0 0] _ _ HQ.out.2)
  have HTz := Lib.hid (show Below w.heap.size w (W4.setRow w.heap.size #[.int .i64 0, .int .i64 1, .int .i64 xi, .slice none 0 0]) from below_setRow HQ.out.1 (Nat.le_refl _) _)
  dsimp only
  generalize W4.setRow w.heap.size #[.int .i64 0, .int .i64 1, .int .i64 xi, .slice none 0 0] = W9 at HZ HTz s2 ⊢
  refine wpAnyH_early 4 9 (.bool xf) (by kernel_rfl) (by kernel_rfl) (by kernel_rfl) (fun _ _ _ h => h) rfl (fun o ho => by obtain rfl := Option.some.inj ho; exact .inl ⟨rfl, fun W hS => rfl⟩) s2 ?_
  simp only [Act.put, List.setIfInBounds_toArray, List.set_cons_zero, List.set_cons_succ]
  refine wpAnyH_done (by kernel_rfl) ?_ _
  go_wp2_with fail
  refine bodyPost_ret (results_row_tmp1 rfl _ _ w.heap.size 34 #[.int .i64 0, .int .i64 1, .int .i64 xi, .slice none 0 0] (0, 0) _ rfl HZ.out Try.underlying34 rfl (by kernel_rfl)) rfl ?_
  unfold Frm20
  dsimp only
  rw [HE.out.1, HE.out.2.1, HE.out.2.2]
  refine ⟨_, .slice ph xh.length qh, .slice pb xb.length pc, rfl, Sl.nil _ _, fun h1 => absurd rfl h1, ?_, Turn.of_below HTz.out, fun h1 g hg => ⟨h1, hg⟩, fun h1 g hg => ⟨h1, hg⟩⟩
  have e1 : ys.set k ⟨⟨xi, xw, xh, false, xs, xf, xb⟩, .slice ph xh.length qh, .slice pb xb.length pc⟩ = ys := set_same20 HY.out
  have e2 : q.l.set k ⟨xi, xw, xh, false, xs, xf, xb⟩ = q.l := set_same20 (by rw [HR.out.e, List.getElem?_map, HY.out]; rfl)
  rw [e1, e2]
  exact HR.out.below HTz.out
set_option maxHeartbeats 4000000 in
theorem rframe20_C (R : Nat) (lv : Value) (ys : List SmV) (q : Sd) (k : Nat) (y : SmV) (room most : Int) (w : World) (h : RsObj w R lv ys q) (hy : ys[k]? = some y) (hw : y.x.waits = false) (hb : y.x.b ≠ []) (hF : (Lit.int .i64 room).wf = true ∧ (Lit.int .i64 most).wf = true) (hF2 : -9223372036854775808 ≤ y.x.win ∧ y.x.win ≤ 9223372036854775807) (hz : frN y.x room most = 0) :
    Calls Try.prog 54 #[.pointer (some ⟨R, 0, none⟩), .int .i64 (k : Int), .int .i64 room, .int .i64 most] w fun e w' => Frm20 w R lv ys q k y room most e w' := by
  obtain ⟨g, c, elv, hk, hc1, hc2, hgR, hgl, hfr, hcell⟩ := h.shape hy
  unfold maxLen at hc2
  have HR := Lib.hid (show RsObj w R (.slice (some ⟨g, 0, none⟩) ys.length c) ys q from elv ▸ h)
  subst elv
  obtain ⟨⟨xi, xw, xh, xa, xs, xf, xb⟩, hv, bv⟩ := y
  have hpy := HR.out.pay _ (List.mem_of_getElem? hy)
  dsimp only at hpy hw hb hF hF2 hz
  obtain ⟨⟨ph, qh, rfl, _⟩, ⟨pb, pc, rfl, _⟩⟩ := hpy
  subst hw
  have d0 : ((xb.length : Int) == 0) = false := by have := List.length_pos_iff.2 hb; rw [beq_eq_false_iff_ne]; omega
  have HY := Lib.hid hy
  have c0 := hcell 0 (by decide)
  have c1 := hcell 1 (by decide)
  have c2 := hcell 2 (by decide)
  have c3 := hcell 3 (by decide)
  have c4 := hcell 4 (by decide)
  have c5 := hcell 5 (by decide)
  have c6 := hcell 6 (by decide)
  simp only [smC, List.getElem?_cons_succ, List.getElem?_cons_zero, Nat.add_zero] at c0 c1 c2 c3 c4 c5 c6
  obtain ⟨f0, f1, f2⟩ := HR.out.blk.cells
  obtain ⟨N, hN⟩ : ∃ N, ys.length = N := ⟨_, rfl⟩
  have HN := Lib.hid hN
  rw [hN] at f1 hk hc1
  have hix := fun q => run_index_sl (P := Try.prog) (t := 62) (s := 7) Try.underlying62 (fun _ => by kernel_rfl) g 0 N c k hk q
  simp only [Nat.zero_add] at hix
  clear hcell hfr h hy hN
  obtain ⟨W3, hW3⟩ : ∃ W3, ((w.alloc (.cells #[.int .i64 0, .int .i64 0, .int .i64 0, .slice none 0 0] 34)).alloc (.cells #[.int .i64 xi, .int .i64 xw, .slice ph xh.length qh, .bool false, .bool xs, .bool xf, .slice pb xb.length pc] 72)).alloc (.cells #[.int .i64 0, .int .i64 0, .int .i64 xi, .slice none 0 0] 34) = W3 := ⟨_, rfl⟩
  have HL := Lib.hid (show Laid20 w W3 ⟨⟨xi, xw, xh, false, xs, xf, xb⟩, .slice ph xh.length qh, .slice pb xb.length pc⟩ [.int .i64 0, .int .i64 0, .int .i64 xi, .slice none 0 0] from ⟨hW3.symm⟩)
  have HR3 := Lib.hid (show RsObj W3 R (.slice (some ⟨g, 0, none⟩) N c) ys q from by rw [← HN.out]; exact HR.out.below HL.out.below)
  have HLw := Lib.hid (show w.heap.size = w.heap.size ∧ R < w.heap.size ∧ g < w.heap.size from ⟨rfl, f2, hgl⟩)
  have f3 := HR3.out.blk.cells.2.1
  have HFt := Lib.hid (show ([room, most, xw].all fun n => (Lit.int .i64 n).wf) = true by simp [hF.1, hF.2, WalkArith.wf_i64 hF2])
  have HE := Lib.hid (show frF ⟨xi, xw, xh, false, xs, xf, xb⟩ room most = ⟨0, 0, xi, []⟩ ∧ frO ⟨xi, xw, xh, false, xs, xf, xb⟩ room most = false ∧ frX ⟨xi, xw, xh, false, xs, xf, xb⟩ room most = ⟨xi, xw, xh, false, xs, xf, xb⟩ from by simp [frF, frO, frX, hb, hz])
  have HN0 := Lib.hid (show roomW (xb.length : Int) [room, most, xw] = 0 from hz)
  clear hb hF hF2 hz
  have z6 := blk_cell (j := 6) HL.out.sm rfl
  have z1 := blk_cell (j := 1) HL.out.sm rfl
  have z7 := (Array.getElem?_eq_some_iff.1 HL.out.sm).1
  have HW3 := Lib.hid hW3
  clear hW3
  go_enter Try.func54, Try.ntmps54
  go_wp2_with fail
  rw [HW3.out]
  refine (refRoom_any _ _ [room, most, xw] _ (Sl.lit (w := W3) (g := w.heap.size + 1 + 1 + 1) [room, most, xw] HL.out.size.symm rfl rfl HFt.out (by simp [maxLen]))).mono ?_
  rintro e W4 ⟨rfl, e0⟩
  rw [HN0.out]
  have HB4 := Lib.hid (show Below W3.heap.size W3 W4 from by rw [e0]; exact (Below.refl _ _).alloc (Nat.le_refl _) _)
  clear e0
  have HK4 := Lib.hid (HL.out.blk.below HB4.out)
  have HR4 := Lib.hid (HR3.out.below HB4.out)
  have y0 : W4.cell? ⟨w.heap.size + 1 + 1, 0, none⟩ = some (.int .i64 0) := blk_cell (j := 0) HK4.out.f rfl
  have y1 : W4.cell? ⟨w.heap.size + 1 + 1, 1, none⟩ = some (.int .i64 0) := blk_cell (j := 1) HK4.out.f rfl
  have y2 : W4.cell? ⟨w.heap.size + 1 + 1, 2, none⟩ = some (.int .i64 xi) := blk_cell (j := 2) HK4.out.f rfl
  have y3 : W4.cell? ⟨w.heap.size + 1 + 1, 3, none⟩ = some (.slice none 0 0) := blk_cell (j := 3) HK4.out.f rfl
  have y4 := (Array.getElem?_eq_some_iff.1 HK4.out.f).1
  have HG8 := Lib.hid HK4.out.z
  clear z6 z1 z7 f3
  go_wp2_with (refine store_fr13 rfl (.tmp 8) (.tmp 73) rfl w.heap.size ⟨0, 0, xi, []⟩ none 0 0 _ rfl rfl HG8.out rfl ?_)
  have HZ := Lib.hid (setRow_heap _ _ _ #[.int .i64 0, .int .i64 0, .int .i64 xi, .slice none 0 0] _ _ HG8.out)
  have HTz := Lib.hid (show Turn (fun k => k = w.heap.size) W4 (W4.setRow w.heap.size #[.int .i64 0, .int .i64 0, .int .i64 xi, .slice none 0 0]) from Turn.of_grown (setRow_grown _ _ _))
  generalize W4.setRow w.heap.size #[.int .i64 0, .int .i64 0, .int .i64 xi, .slice none 0 0] = W9 at HZ HTz ⊢
  refine bodyPost_ret (results_row_tmp1 rfl _ _ w.heap.size 34 #[.int .i64 0, .int .i64 0, .int .i64 xi, .slice none 0 0] (0, 0) _ rfl HZ.out Try.underlying34 rfl (by kernel_rfl)) rfl ?_
  have hbz : Below w.heap.size w W9 := by
    have h1 := HL.out.below.trans (HB4.out.mono HL.out.below.size)
    exact HTz.out.base h1 h1.size (fun k e => by have e' : k = w.heap.size := e; omega)
  unfold Frm20
  dsimp only
  rw [HE.out.1, HE.out.2.1, HE.out.2.2]
  refine ⟨_, .slice ph xh.length qh, .slice pb xb.length pc, rfl, Sl.nil _ _, fun h1 => absurd rfl h1, ?_, Turn.of_below hbz, fun h1 g hg => ⟨h1, hg⟩, fun h1 g hg => ⟨h1, hg⟩⟩
  have e1 : ys.set k ⟨⟨xi, xw, xh, false, xs, xf, xb⟩, .slice ph xh.length qh, .slice pb xb.length pc⟩ = ys := set_same20 HY.out
  have e2 : q.l.set k ⟨xi, xw, xh, false, xs, xf, xb⟩ = q.l := set_same20 (by rw [HR.out.e, List.getElem?_map, HY.out]; rfl)
  rw [e1, e2]
  exact HR.out.below hbz
set_option maxHeartbeats 4000000 in
theorem rframe20_D1 (R : Nat) (lv : Value) (ys : List SmV) (q : Sd) (k : Nat) (y : SmV) (room most : Int) (w : World) (h : RsObj w R lv ys q) (hy : ys[k]? = some y) (hw : y.x.waits = false) (hb : y.x.b ≠ []) (hF : (Lit.int .i64 room).wf = true ∧ (Lit.int .i64 most).wf = true) (hF2 : -9223372036854775808 ≤ y.x.win ∧ y.x.win ≤ 9223372036854775807) (hz : frN y.x room most ≠ 0) (hl : y.x.b.length ≤ 1000000) (hm : frN y.x room most = y.x.b.length) (hf : y.x.fin = true) :
    Calls Try.prog 54 #[.pointer (some ⟨R, 0, none⟩), .int .i64 (k : Int), .int .i64 room, .int .i64 most] w fun e w' => Frm20 w R lv ys q k y room most e w' := by
  obtain ⟨g, c, elv, hk, hc1, hc2, hgR, hgl, hfr, hcell⟩ := h.shape hy
  unfold maxLen at hc2
  have HR := Lib.hid (show RsObj w R (.slice (some ⟨g, 0, none⟩) ys.length c) ys q from elv ▸ h)
  subst elv
  obtain ⟨⟨xi, xw, xh, xa, xs, xf, xb⟩, hv, bv⟩ := y
  have hpy := HR.out.pay _ (List.mem_of_getElem? hy)
  dsimp only at hpy hw hb hF hF2 hz hl hm hf
  obtain ⟨⟨ph, qh, rfl, _⟩, ⟨pb, pc, rfl, _⟩⟩ := hpy
  subst hw
  subst hf
  have d0 : ((xb.length : Int) == 0) = false := by have := List.length_pos_iff.2 hb; rw [beq_eq_false_iff_ne]; omega
  have HY := Lib.hid hy
  have c0 := hcell 0 (by decide)
  have c1 := hcell 1 (by decide)
  have c2 := hcell 2 (by decide)
  have c3 := hcell 3 (by decide)
  have c4 := hcell 4 (by decide)
  have c5 := hcell 5 (by decide)
  have c6 := hcell 6 (by decide)
  simp only [smC, List.getElem?_cons_succ, List.getElem?_cons_zero, Nat.add_zero] at c0 c1 c2 c3 c4 c5 c6
  obtain ⟨f0, f1, f2⟩ := HR.out.blk.cells
  obtain ⟨N, hN⟩ : ∃ N, ys.length = N := ⟨_, rfl⟩
  have HN := Lib.hid hN
  rw [hN] at f1 hk hc1
  have hix := fun q => run_index_sl (P := Try.prog) (t := 62) (s := 7) Try.underlying62 (fun _ => by kernel_rfl) g 0 N c k hk q
  simp only [Nat.zero_add] at hix
  clear hcell hfr h hy hN
  obtain ⟨W3, hW3⟩ : ∃ W3, ((w.alloc (.cells #[.int .i64 0, .int .i64 0, .int .i64 0, .slice none 0 0] 34)).alloc (.cells #[.int .i64 xi, .int .i64 xw, .slice ph xh.length qh, .bool false, .bool xs, .bool true, .slice pb xb.length pc] 72)).alloc (.cells #[.int .i64 0, .int .i64 0, .int .i64 xi, .slice none 0 0] 34) = W3 := ⟨_, rfl⟩
  have HL := Lib.hid (show Laid20 w W3 ⟨⟨xi, xw, xh, false, xs, true, xb⟩, .slice ph xh.length qh, .slice pb xb.length pc⟩ [.int .i64 0, .int .i64 0, .int .i64 xi, .slice none 0 0] from ⟨hW3.symm⟩)
  have HR3 := Lib.hid (show RsObj W3 R (.slice (some ⟨g, 0, none⟩) N c) ys q from by rw [← HN.out]; exact HR.out.below HL.out.below)
  have HLw := Lib.hid (show w.heap.size = w.heap.size ∧ R < w.heap.size ∧ g < w.heap.size from ⟨rfl, f2, hgl⟩)
  have f3 := HR3.out.blk.cells.2.1
  have HFt := Lib.hid (show ([room, most, xw].all fun n => (Lit.int .i64 n).wf) = true by simp [hF.1, hF.2, WalkArith.wf_i64 hF2])
  have hrg := frN_rng ⟨xi, xw, xh, false, xs, true, xb⟩ room most
  dsimp only at hrg
  obtain ⟨m, hmm⟩ : ∃ m : Nat, frN ⟨xi, xw, xh, false, xs, true, xb⟩ room most = (m : Int) := ⟨(frN ⟨xi, xw, xh, false, xs, true, xb⟩ room most).toNat, by omega⟩
  have hmle : m ≤ xb.length := by omega
  have hm0 : m ≠ 0 := by omega
  have hmw : (m : Int) ≤ xw := by rw [hmm] at hrg; exact (hrg.2.2 (by omega)).1
  have hml : (m : Int) = xb.length := by omega
  have HE := Lib.hid (show frF ⟨xi, xw, xh, false, xs, true, xb⟩ room most = ⟨0, 1, xi, xb.take m⟩ ∧ frO ⟨xi, xw, xh, false, xs, true, xb⟩ room most = true ∧ frX ⟨xi, xw, xh, false, xs, true, xb⟩ room most = ⟨xi, xw - (m : Int), xh, false, xs, true, xb.drop m⟩ from by
    have hz1 : ¬ (m : Int) = 0 := by omega
    simp [frF, frO, frX, hb, hmm, hml]
    exact ⟨(List.take_of_length_le (by omega)).symm, by omega⟩)
  have HN0 := Lib.hid (show roomW (xb.length : Int) [room, most, xw] = (m : Int) from hmm)
  have dm : ((m : Int) == 0) = false := by rw [beq_eq_false_iff_ne]; omega
  have dl : ((m : Int) == (xb.length : Int)) = true := by rw [beq_iff_eq]; omega
  have HM := Lib.hid (And.intro hmle hmw)
  have HXw := Lib.hid hF2.2
  have hlx := hl
  clear hb hF hF2 hz hrg hmm hm0 hml hm
  have z6 := blk_cell (j := 6) HL.out.sm rfl
  have z1 := blk_cell (j := 1) HL.out.sm rfl
  have z7 := (Array.getElem?_eq_some_iff.1 HL.out.sm).1
  have HW3 := Lib.hid hW3
  clear hW3
  go_enter Try.func54, Try.ntmps54
  go_wp2_with fail
  rw [HW3.out]
  refine (refRoom_any _ _ [room, most, xw] _ (Sl.lit (w := W3) (g := w.heap.size + 1 + 1 + 1) [room, most, xw] HL.out.size.symm rfl rfl HFt.out (by simp [maxLen]))).mono ?_
  rintro e W4 ⟨rfl, e0⟩
  rw [HN0.out]
  have HB4 := Lib.hid (show Below W3.heap.size W3 W4 from by rw [e0]; exact (Below.refl _ _).alloc (Nat.le_refl _) _)
  clear e0
  have HK4 := Lib.hid (HL.out.blk.below HB4.out)
  have HR4 := Lib.hid (HR3.out.below HB4.out)
  have hp4 := HR4.out.pay _ (List.mem_of_getElem? HY.out)
  have hn4 := HR.out.np _ (List.mem_of_getElem? HY.out)
  dsimp only at hp4 hn4
  have hn1 : xh ≠ [] → ∀ k, (Value.slice ph xh.length qh).ownBlock = some k → k ≠ R ∧ g ≠ k := fun h1 k hk => ⟨(hn4.1 h1 k hk).1, fun e => (hn4.1 h1 k hk).2 (by rw [← e]; rfl)⟩
  have hn2 : xb ≠ [] → ∀ k, (Value.slice pb xb.length pc).ownBlock = some k → k ≠ R ∧ g ≠ k := fun h1 k hk => ⟨(hn4.2 h1 k hk).1, fun e => (hn4.2 h1 k hk).2 (by rw [← e]; rfl)⟩
  obtain ⟨af, cf, hrf, hsf, hof⟩ := cut_first hp4.2 m HM.out.1
  obtain ⟨ar, cr, hrr, hsr, hor⟩ := cut_rest hp4.2 m HM.out.1
  have HCut := Lib.hid (And.intro hsf (And.intro hof (And.intro hsr hor)))
  have HNn := Lib.hid (And.intro hn1 hn2)
  have hq := HK4.out.setF 3 (.slice af m cf)
  obtain ⟨W5, hW5⟩ : ∃ W5, W4.setCell ⟨w.heap.size + 1 + 1, 3, none⟩ (.slice af m cf) = W5 := ⟨_, rfl⟩
  rw [hW5] at hq
  have HK5 := Lib.hid hq
  have y6 : W4.cell? ⟨w.heap.size + 1, 6, none⟩ = some (.slice pb xb.length pc) := blk_cell (j := 6) HK4.out.s rfl
  have y3 : W4.cell? ⟨w.heap.size + 1 + 1, 3, none⟩ = some (.slice none 0 0) := blk_cell (j := 3) HK4.out.f rfl
  have y3f : W4.frozen? ⟨w.heap.size + 1 + 1, 3, none⟩ = false := blk_free HK4.out.f
  have y4 := HK4.out.sizes
  have HR5 := Lib.hid (show RsObj W5 R (.slice (some ⟨g, 0, none⟩) N c) ys q from HR4.out.high (HN.out ▸ HR.out.lows) HK5.out.2 (fun k e => by have e' : k = w.heap.size + 1 + 1 := e; omega))
  clear z6 z1 z7 f3 hp4 hn4 hn1 hn2 hsf hsr hof hor hq hlx
  obtain ⟨y41, y42, y43⟩ := y4
  go_wp2_with fail
  have HC5 := Lib.hid (show (∀ W', Below W5.heap.size W5 W' → W'.cell? ⟨R, 1, none⟩ = some (.slice (some ⟨g, 0, none⟩) N c)) ∧ (∀ W', Below W5.heap.size W5 W' → W'.cell? ⟨w.heap.size + 1, 6, none⟩ = some (.slice pb xb.length pc)) from
    ⟨fun W' hb => (HR5.out.below hb).blk.cells.2.1, fun W' hb => blk_cell (j := 6) (HK5.out.1.below hb).s rfl⟩)
  clear c0 c1 c2 c3 c4 c5 c6 f0 f1 f2 y6 y3 y3f y41 y42 y43 hW5
  refine wp_region_table 9 [79, 80, 81, 82, 83, 84, 85, 86, 87] [[], [(0, 79)], [(1, 80)], [(2, 81)], [], [], [(5, 84)], [], [(6, 85), (7, 86)]]
    (fun i v w' => match i with
      | 0 => v = .pointer (some ⟨R, 0, none⟩)
      | 1 => v = .pointer (some ⟨R, 0, none⟩)
      | 2 => v = .pointer (some ⟨R, 1, none⟩)
      | 3 => v = .slice (some ⟨g, 0, none⟩) N c
      | 4 => v = .int .i64 (k : Int)
      | 5 => v = .pointer (some ⟨w.heap.size + 1, 6, none⟩)
      | 6 => v = .slice pb xb.length pc
      | 7 => v = .int .i64 (m : Int)
      | 8 => v = .slice ar (xb.length - m) cr
      | _ => True) (by kernel_rfl) (by kernel_rfl) ?tStab ?tOps ?tRest
  case tStab =>
    intro i v w3 w4 h hb
    match i, h with
    | 0, h | 1, h | 2, h | 3, h | 4, h | 5, h | 6, h | 7, h | 8, h => exact h
    | i + 9, _ => trivial
  case tOps =>
    simp only [List.take_succ_cons, List.take_zero, opsOk]
    refine ⟨?_, ?_, ?_, ?_, ?_, ?_, ?_, ?_, ?_, trivial⟩
    · intro ρ w3 hc hf ho hB hj
      have x0 : ρ (.tmp 0) = .pointer (some ⟨R, 0, none⟩) := ho 0 (by decide)
      simp [gives, go_sem, x0, Below.refl]
    · intro ρ w3 hc hf ho hB hj
      have x0 : ρ (.tmp 79) = .pointer (some ⟨R, 0, none⟩) := hj (0, 79) (by simp)
      simp [gives, go_sem, x0, Below.refl]
    · intro ρ w3 hc hf ho hB hj
      have x0 : ρ (.tmp 80) = .pointer (some ⟨R, 0, none⟩) := hj (1, 80) (by simp)
      simp [gives, go_sem, x0, Below.refl]
    · intro ρ w3 hc hf ho hB hj
      have x0 : ρ (.tmp 81) = .pointer (some ⟨R, 1, none⟩) := hj (2, 81) (by simp)
      have i1 := HC5.out.1 w3 hB
      simp [gives, go_sem, x0, i1, Below.refl]
    · intro ρ w3 hc hf ho hB hj
      have x0 : ρ (.tmp 1) = .int .i64 (k : Int) := ho 1 (by decide)
      simp [gives, go_sem, x0, Below.refl]
    · intro ρ w3 hc hf ho hB hj
      have x0 : ρ (.tmp 10) = .pointer (some ⟨w.heap.size + 1, 0, none⟩) := ho 10 (by decide)
      simp [gives, go_sem, x0, Below.refl]
    · intro ρ w3 hc hf ho hB hj
      have x0 : ρ (.tmp 84) = .pointer (some ⟨w.heap.size + 1, 6, none⟩) := hj (5, 84) (by simp)
      have i1 := HC5.out.2 w3 hB
      simp [gives, go_sem, x0, i1, Below.refl]
    · intro ρ w3 hc hf ho hB hj
      have x0 : ρ (.tmp 12) = .int .i64 (m : Int) := ho 12 (by decide)
      simp [gives, go_sem, x0, Below.refl]
    · intro ρ w3 hc hf ho hB hj
      have x0 : ρ (.tmp 85) = .slice pb xb.length pc := hj (6, 85) (by simp)
      have x1 : ρ (.tmp 86) = .int .i64 (m : Int) := hj (7, 86) (by simp)
      have i1 := hrr .i64
      simp [gives, go_sem, x0, x1, i1, Below.refl]
  case tRest =>
    intro X w3 hBw hX
    have x0 : X 0 = .pointer (some ⟨R, 0, none⟩) := hX 0 (by decide)
    have x1 : X 1 = .pointer (some ⟨R, 0, none⟩) := hX 1 (by decide)
    have x2 : X 2 = .pointer (some ⟨R, 1, none⟩) := hX 2 (by decide)
    have x3 : X 3 = .slice (some ⟨g, 0, none⟩) N c := hX 3 (by decide)
    have x4 : X 4 = .int .i64 (k : Int) := hX 4 (by decide)
    have x5 : X 5 = .pointer (some ⟨w.heap.size + 1, 6, none⟩) := hX 5 (by decide)
    have x6 : X 6 = .slice pb xb.length pc := hX 6 (by decide)
    have x7 : X 7 = .int .i64 (m : Int) := hX 7 (by decide)
    have x8 : X 8 = .slice ar (xb.length - m) cr := hX 8 (by decide)
    simp only [putAll, List.getD_cons_zero, List.getD_cons_succ, Act.put, List.setIfInBounds_toArray, List.set_cons_zero, List.set_cons_succ, List.drop_succ_cons, List.drop_zero]
    rw [x0, x1, x2, x3, x4, x5, x6, x7, x8]
    clear x0 x1 x2 x3 x4 x5 x6 x7 x8 hrf hrr
    obtain ⟨w6, hw6⟩ : ∃ w6, w3 = w6 := ⟨_, rfl⟩
    subst hw6
    have HR6 := Lib.hid (HR5.out.below hBw)
    have HK6 := Lib.hid (HK5.out.1.below hBw)
    have HB6 := Lib.hid hBw
    clear hBw hX
    have hp6 := HR6.out.pay _ (List.mem_of_getElem? HY.out)
    dsimp only at hp6
    have hb46 : Turn (fun k => k = w.heap.size + 1 + 1) W4 w3 := HK5.out.2.trans (Turn.of_below HB6.out)
    have hnb : ∀ z, (Value.slice pb xb.length pc).ownBlock = some z → xb ≠ [] → ¬ z = w.heap.size + 1 + 1 := fun z hz h1 e => by
      have := (HR.out.pay _ (List.mem_of_getElem? HY.out)).2.lt0 h1 hz
      omega
    have hne : ∀ l : List Int, l = xb.drop m → l ≠ [] → xb ≠ [] := fun l e h1 h2 => h1 (by rw [e, h2]; simp)
    have hr6 : Sl .u8 w3 (.slice ar (xb.length - m) cr) (xb.drop m) := HCut.out.2.2.1.turn0 hb46 (fun h1 z hz => hnb z (HCut.out.2.2.2 z hz) (hne _ rfl h1))
    have hs := set_one HR6.out HN.out HY.out (j1 := 6) (y1 := ⟨⟨xi, xw, xh, false, xs, true, xb.drop m⟩, .slice ph xh.length qh, .slice ar (xb.length - m) cr⟩) (u1 := .slice ar (xb.length - m) cr) (by decide) rfl ⟨hp6.1, hr6⟩ ⟨HNn.out.1, fun h1 z hz => HNn.out.2 (hne _ rfl h1) z (HCut.out.2.2.2 z hz)⟩
    obtain ⟨W7, hW7⟩ : ∃ W7, w3.setCell ⟨g, k * 7 + 6, none⟩ (.slice ar (xb.length - m) cr) = W7 := ⟨_, rfl⟩
    rw [hW7] at hs
    obtain ⟨⟨⟨v1, i1⟩, i2, i3, i4, i5⟩, s7, n7, t7, u7⟩ := hs
    have HS7 := Lib.hid (And.intro s7 (And.intro n7 (And.intro t7 u7)))
    have HK7 := Lib.hid (HK6.out.turn u7 HLw.out.2.2)
    clear hp6 hb46 hnb hne hr6 s7 n7 t7 u7
    go_wp2_with fail
    have HC7 := Lib.hid (show (∀ W', Below W7.heap.size W7 W' → W'.cell? ⟨R, 1, none⟩ = some (.slice (some ⟨g, 0, none⟩) N c)) ∧ (∀ W', Below W7.heap.size W7 W' → W'.cell? ⟨w.heap.size + 1, 1, none⟩ = some (.int .i64 xw)) from
      ⟨fun W' hb => (HS7.out.1.below hb).blk.cells.2.1, fun W' hb => blk_cell (j := 1) (HK7.out.below hb).s rfl⟩)
    have HSub := Lib.hid (show IntKind.i64.wrap (xw - (m : Int)) = xw - (m : Int) from by have h1 := HM.out.2; have h2 := HXw.out; exact wrap_mid20 (by omega) (by omega))
    clear i1 i2 i3 i4 i5 hW7
    refine wp_region_table 9 [90, 91, 92, 93, 94, 95, 96, 97, 98] [[], [(0, 90)], [(1, 91)], [(2, 92)], [], [], [(5, 95)], [], [(6, 96), (7, 97)]]
      (fun i v w' => match i with
        | 0 => v = .pointer (some ⟨R, 0, none⟩)
        | 1 => v = .pointer (some ⟨R, 0, none⟩)
        | 2 => v = .pointer (some ⟨R, 1, none⟩)
        | 3 => v = .slice (some ⟨g, 0, none⟩) N c
        | 4 => v = .int .i64 (k : Int)
        | 5 => v = .pointer (some ⟨w.heap.size + 1, 1, none⟩)
        | 6 => v = .int .i64 xw
        | 7 => v = .int .i64 (m : Int)
        | 8 => v = .int .i64 (xw - (m : Int))
        | _ => True) (by kernel_rfl) (by kernel_rfl) ?uStab ?uOps ?uRest
    case uStab =>
      intro i v w8 w4 h hb
      match i, h with
      | 0, h | 1, h | 2, h | 3, h | 4, h | 5, h | 6, h | 7, h | 8, h => exact h
      | i + 9, _ => trivial
    case uOps =>
      simp only [List.take_succ_cons, List.take_zero, opsOk]
      refine ⟨?_, ?_, ?_, ?_, ?_, ?_, ?_, ?_, ?_, trivial⟩
      · intro ρ w8 hc hf ho hB hj
        have x0 : ρ (.tmp 0) = .pointer (some ⟨R, 0, none⟩) := ho 0 (by decide)
        simp [gives, go_sem, x0, Below.refl]
      · intro ρ w8 hc hf ho hB hj
        have x0 : ρ (.tmp 90) = .pointer (some ⟨R, 0, none⟩) := hj (0, 90) (by simp)
        simp [gives, go_sem, x0, Below.refl]
      · intro ρ w8 hc hf ho hB hj
        have x0 : ρ (.tmp 91) = .pointer (some ⟨R, 0, none⟩) := hj (1, 91) (by simp)
        simp [gives, go_sem, x0, Below.refl]
      · intro ρ w8 hc hf ho hB hj
        have x0 : ρ (.tmp 92) = .pointer (some ⟨R, 1, none⟩) := hj (2, 92) (by simp)
        have i1 := HC7.out.1 w8 hB
        simp [gives, go_sem, x0, i1, Below.refl]
      · intro ρ w8 hc hf ho hB hj
        have x0 : ρ (.tmp 1) = .int .i64 (k : Int) := ho 1 (by decide)
        simp [gives, go_sem, x0, Below.refl]
      · intro ρ w8 hc hf ho hB hj
        have x0 : ρ (.tmp 10) = .pointer (some ⟨w.heap.size + 1, 0, none⟩) := ho 10 (by decide)
        simp [gives, go_sem, x0, Below.refl]
      · intro ρ w8 hc hf ho hB hj
        have x0 : ρ (.tmp 95) = .pointer (some ⟨w.heap.size + 1, 1, none⟩) := hj (5, 95) (by simp)
        have i1 := HC7.out.2 w8 hB
        simp [gives, go_sem, x0, i1, Below.refl]
      · intro ρ w8 hc hf ho hB hj
        have x0 : ρ (.tmp 12) = .int .i64 (m : Int) := ho 12 (by decide)
        simp [gives, go_sem, x0, Below.refl]
      · intro ρ w8 hc hf ho hB hj
        have x0 : ρ (.tmp 96) = .int .i64 xw := hj (6, 96) (by simp)
        have x1 : ρ (.tmp 97) = .int .i64 (m : Int) := hj (7, 97) (by simp)
        have i1 := HSub.out
        simp [gives, go_sem, x0, x1, i1, Below.refl]
    case uRest =>
      intro X w8 hBv hX
      have x0 : X 0 = .pointer (some ⟨R, 0, none⟩) := hX 0 (by decide)
      have x1 : X 1 = .pointer (some ⟨R, 0, none⟩) := hX 1 (by decide)
      have x2 : X 2 = .pointer (some ⟨R, 1, none⟩) := hX 2 (by decide)
      have x3 : X 3 = .slice (some ⟨g, 0, none⟩) N c := hX 3 (by decide)
      have x4 : X 4 = .int .i64 (k : Int) := hX 4 (by decide)
      have x5 : X 5 = .pointer (some ⟨w.heap.size + 1, 1, none⟩) := hX 5 (by decide)
      have x6 : X 6 = .int .i64 xw := hX 6 (by decide)
      have x7 : X 7 = .int .i64 (m : Int) := hX 7 (by decide)
      have x8 : X 8 = .int .i64 (xw - (m : Int)) := hX 8 (by decide)
      simp only [putAll, List.getD_cons_zero, List.getD_cons_succ, Act.put, List.setIfInBounds_toArray, List.set_cons_zero, List.set_cons_succ, List.drop_succ_cons, List.drop_zero]
      rw [x0, x1, x2, x3, x4, x5, x6, x7, x8]
      clear x0 x1 x2 x3 x4 x5 x6 x7 x8
      have HR8 := Lib.hid (HS7.out.1.below hBv)
      have HK8 := Lib.hid (HK7.out.below hBv)
      have HB8 := Lib.hid hBv
      clear hBv hX
      have hp8 := HR8.out.pay _ (List.mem_of_getElem? HS7.out.2.2.1)
      have hn8 := HR8.out.np _ (List.mem_of_getElem? HS7.out.2.2.1)
      dsimp only at hp8 hn8
      have hs := set_one HR8.out HS7.out.2.1 HS7.out.2.2.1 (j1 := 1) (y1 := ⟨⟨xi, xw - (m : Int), xh, false, xs, true, xb.drop m⟩, .slice ph xh.length qh, .slice ar (xb.length - m) cr⟩) (u1 := .int .i64 (xw - (m : Int))) (by decide) rfl hp8 ⟨fun h1 z hz => ⟨(hn8.1 h1 z hz).1, fun e => (hn8.1 h1 z hz).2 (by rw [← e]; rfl)⟩, fun h1 z hz => ⟨(hn8.2 h1 z hz).1, fun e => (hn8.2 h1 z hz).2 (by rw [← e]; rfl)⟩⟩
      obtain ⟨W10, hW10⟩ : ∃ W10, w8.setCell ⟨g, k * 7 + 1, none⟩ (.int .i64 (xw - (m : Int))) = W10 := ⟨_, rfl⟩
      rw [hW10] at hs
      obtain ⟨⟨⟨v1, i1⟩, i2, i3, i4, i5⟩, s10, n10, t10, u10⟩ := hs
      simp only [List.set_set] at s10
      have HS10 := Lib.hid (And.intro s10 u10)
      have HK10 := Lib.hid (HK8.out.turn u10 HLw.out.2.2)
      clear hp8 hn8 s10 n10 t10 u10
      have z6 : W10.cell? ⟨w.heap.size + 1, 6, none⟩ = some (.slice pb xb.length pc) := blk_cell (j := 6) HK10.out.s rfl
      have z5 : W10.cell? ⟨w.heap.size + 1, 5, none⟩ = some (.bool true) := blk_cell (j := 5) HK10.out.s rfl
      have hq := HK10.out.setF 1 (.int .i64 1)
      obtain ⟨W11, hW11⟩ : ∃ W11, W10.setCell ⟨w.heap.size + 1 + 1, 1, none⟩ (.int .i64 1) = W11 := ⟨_, rfl⟩
      rw [hW11] at hq
      have HK11 := Lib.hid hq
      have y1f : W10.frozen? ⟨w.heap.size + 1 + 1, 1, none⟩ = false := blk_free HK10.out.f
      have y1c : W10.cell? ⟨w.heap.size + 1 + 1, 1, none⟩ = some (.int .i64 0) := blk_cell (j := 1) HK10.out.f rfl
      clear hq
      have y0 : W11.cell? ⟨w.heap.size + 1 + 1, 0, none⟩ = some (.int .i64 0) := blk_cell (j := 0) HK11.out.1.f rfl
      have y1 : W11.cell? ⟨w.heap.size + 1 + 1, 1, none⟩ = some (.int .i64 1) := blk_cell (j := 1) HK11.out.1.f rfl
      have y2 : W11.cell? ⟨w.heap.size + 1 + 1, 2, none⟩ = some (.int .i64 xi) := blk_cell (j := 2) HK11.out.1.f rfl
      have y3 : W11.cell? ⟨w.heap.size + 1 + 1, 3, none⟩ = some (.slice af m cf) := blk_cell (j := 3) HK11.out.1.f rfl
      obtain ⟨y41, y42, y43⟩ := HK11.out.1.sizes
      obtain ⟨y44, y45, y46⟩ := HK10.out.sizes
      have HG8 := Lib.hid HK11.out.1.z
      have hlenm : (xb.take m).length = m := by rw [List.length_take]; have := HM.out.1; omega
      go_wp2_with (refine store_fr13 rfl (.tmp 8) (.tmp 111) rfl w.heap.size ⟨0, 1, xi, xb.take m⟩ af m cf _ rfl rfl HG8.out rfl ?_)
      have HZ := Lib.hid (setRow_heap _ _ _ #[.int .i64 0, .int .i64 1, .int .i64 xi, .slice af m cf] _ _ HG8.out)
      have HTz := Lib.hid (show Turn (fun k => k = w.heap.size) W11 (W11.setRow w.heap.size #[.int .i64 0, .int .i64 1, .int .i64 xi, .slice af m cf]) from Turn.of_grown (setRow_grown _ _ _))
      generalize W11.setRow w.heap.size #[.int .i64 0, .int .i64 1, .int .i64 xi, .slice af m cf] = W9 at HZ HTz ⊢
      refine bodyPost_ret (results_row_tmp1 rfl _ _ w.heap.size 34 #[.int .i64 0, .int .i64 1, .int .i64 xi, .slice af m cf] (0, 0) _ rfl HZ.out Try.underlying34 rfl (by kernel_rfl)) rfl ?_
      have hn := HLw.out
      have HT9 : Turn (fun k => w.heap.size ≤ k) W10 W9 := ((HK11.out.2.mono (fun k _ e => by have e' : k = w.heap.size + 1 + 1 := e; omega)).trans (HTz.out.mono (fun k _ e => by have e' : k = w.heap.size := e; omega)))
      have b4 : Below w.heap.size w W4 := HL.out.below.trans (HB4.out.mono HL.out.below.size)
      have t5 : Turn (fun k => k = g ∨ w.heap.size ≤ k) W4 W9 :=
        (((HK5.out.2.mono (fun k _ e => by have e' : k = w.heap.size + 1 + 1 := e; omega)).trans (Turn.of_below HB6.out)).trans (HS7.out.2.2.2.mono (fun k _ e => .inl e))).trans (((Turn.of_below HB8.out).trans (HS10.out.2.mono (fun k _ e => .inl e))).trans (HT9.mono (fun k _ e => .inr e)))
      have ht : Turn (fun k => k = g) w W9 := (Turn.of_below b4).trans' t5 (fun k hk e => by
        rcases e with e | e
        · exact e
        · omega)
      have hn0 := HR.out.np _ (List.mem_of_getElem? HY.out)
      have hp0 := HR.out.pay _ (List.mem_of_getElem? HY.out)
      dsimp only at hn0 hp0
      have hnt : xb.take m ≠ [] → xb ≠ [] := fun h1 h2 => h1 (by rw [h2]; simp)
      have hnd : xb.drop m ≠ [] → xb ≠ [] := fun h1 h2 => h1 (by rw [h2]; simp)
      unfold Frm20
      dsimp only
      rw [HE.out.1, HE.out.2.1, HE.out.2.2]
      refine ⟨_, .slice ph xh.length qh, .slice ar (xb.length - m) cr, rfl, HCut.out.1.turn0 t5 (fun h1 k hk e => ?_), fun h1 g hg => .inr ⟨hnt h1, HCut.out.2.1 g hg⟩, ?_, ht.mono (fun k _ e => by rw [show k = g from e]; rfl), fun h1 g hg => ⟨h1, hg⟩, fun h1 g hg => ⟨hnd h1, HCut.out.2.2.2 g hg⟩⟩
      · have h2 := HCut.out.2.1 k hk
        rcases e with e | e
        · exact (hn0.2 (hnt h1) k h2).2 (by rw [e]; rfl)
        · have := hp0.2.lt0 (hnt h1) h2; omega
      · have hh := HS10.out.1.high ((HN.out ▸ HR.out.lows).set k ⟨fun h1 g hg => hp0.1.lt0 h1 hg, fun h1 g hg => hp0.2.lt0 (hnd h1) (HCut.out.2.2.2 g hg)⟩) HT9 (fun _ e => e)
        rw [HN.out]
        exact hh
set_option maxHeartbeats 4000000 in
theorem rframe20_D2 (R : Nat) (lv : Value) (ys : List SmV) (q : Sd) (k : Nat) (y : SmV) (room most : Int) (w : World) (h : RsObj w R lv ys q) (hy : ys[k]? = some y) (hw : y.x.waits = false) (hb : y.x.b ≠ []) (hF : (Lit.int .i64 room).wf = true ∧ (Lit.int .i64 most).wf = true) (hF2 : -9223372036854775808 ≤ y.x.win ∧ y.x.win ≤ 9223372036854775807) (hz : frN y.x room most ≠ 0) (hl : y.x.b.length ≤ 1000000) (hm : frN y.x room most ≠ y.x.b.length) :
    Calls Try.prog 54 #[.pointer (some ⟨R, 0, none⟩), .int .i64 (k : Int), .int .i64 room, .int .i64 most] w fun e w' => Frm20 w R lv ys q k y room most e w' := by
  obtain ⟨g, c, elv, hk, hc1, hc2, hgR, hgl, hfr, hcell⟩ := h.shape hy
  unfold maxLen at hc2
  have HR := Lib.hid (show RsObj w R (.slice (some ⟨g, 0, none⟩) ys.length c) ys q from elv ▸ h)
  subst elv
  obtain ⟨⟨xi, xw, xh, xa, xs, xf, xb⟩, hv, bv⟩ := y
  have hpy := HR.out.pay _ (List.mem_of_getElem? hy)
  dsimp only at hpy hw hb hF hF2 hz hl hm
  obtain ⟨⟨ph, qh, rfl, _⟩, ⟨pb, pc, rfl, _⟩⟩ := hpy
  subst hw
  have d0 : ((xb.length : Int) == 0) = false := by have := List.length_pos_iff.2 hb; rw [beq_eq_false_iff_ne]; omega
  have HY := Lib.hid hy
  have c0 := hcell 0 (by decide)
  have c1 := hcell 1 (by decide)
  have c2 := hcell 2 (by decide)
  have c3 := hcell 3 (by decide)
  have c4 := hcell 4 (by decide)
  have c5 := hcell 5 (by decide)
  have c6 := hcell 6 (by decide)
  simp only [smC, List.getElem?_cons_succ, List.getElem?_cons_zero, Nat.add_zero] at c0 c1 c2 c3 c4 c5 c6
  obtain ⟨f0, f1, f2⟩ := HR.out.blk.cells
  obtain ⟨N, hN⟩ : ∃ N, ys.length = N := ⟨_, rfl⟩
  have HN := Lib.hid hN
  rw [hN] at f1 hk hc1
  have hix := fun q => run_index_sl (P := Try.prog) (t := 62) (s := 7) Try.underlying62 (fun _ => by kernel_rfl) g 0 N c k hk q
  simp only [Nat.zero_add] at hix
  clear hcell hfr h hy hN
  obtain ⟨W3, hW3⟩ : ∃ W3, ((w.alloc (.cells #[.int .i64 0, .int .i64 0, .int .i64 0, .slice none 0 0] 34)).alloc (.cells #[.int .i64 xi, .int .i64 xw, .slice ph xh.length qh, .bool false, .bool xs, .bool xf, .slice pb xb.length pc] 72)).alloc (.cells #[.int .i64 0, .int .i64 0, .int .i64 xi, .slice none 0 0] 34) = W3 := ⟨_, rfl⟩
  have HL := Lib.hid (show Laid20 w W3 ⟨⟨xi, xw, xh, false, xs, xf, xb⟩, .slice ph xh.length qh, .slice pb xb.length pc⟩ [.int .i64 0, .int .i64 0, .int .i64 xi, .slice none 0 0] from ⟨hW3.symm⟩)
  have HR3 := Lib.hid (show RsObj W3 R (.slice (some ⟨g, 0, none⟩) N c) ys q from by rw [← HN.out]; exact HR.out.below HL.out.below)
  have HLw := Lib.hid (show w.heap.size = w.heap.size ∧ R < w.heap.size ∧ g < w.heap.size from ⟨rfl, f2, hgl⟩)
  have f3 := HR3.out.blk.cells.2.1
  have HFt := Lib.hid (show ([room, most, xw].all fun n => (Lit.int .i64 n).wf) = true by simp [hF.1, hF.2, WalkArith.wf_i64 hF2])
  have hrg := frN_rng ⟨xi, xw, xh, false, xs, xf, xb⟩ room most
  dsimp only at hrg
  obtain ⟨m, hmm⟩ : ∃ m : Nat, frN ⟨xi, xw, xh, false, xs, xf, xb⟩ room most = (m : Int) := ⟨(frN ⟨xi, xw, xh, false, xs, xf, xb⟩ room most).toNat, by omega⟩
  have hmle : m ≤ xb.length := by omega
  have hm0 : m ≠ 0 := by omega
  have hmw : (m : Int) ≤ xw := by rw [hmm] at hrg; exact (hrg.2.2 (by omega)).1
  have hml : ¬ (m : Int) = xb.length := by omega
  have HE := Lib.hid (show frF ⟨xi, xw, xh, false, xs, xf, xb⟩ room most = ⟨0, 0, xi, xb.take m⟩ ∧ frO ⟨xi, xw, xh, false, xs, xf, xb⟩ room most = true ∧ frX ⟨xi, xw, xh, false, xs, xf, xb⟩ room most = ⟨xi, xw - (m : Int), xh, false, xs, xf, xb.drop m⟩ from by
    have hz1 : ¬ (m : Int) = 0 := by omega
    simp [frF, frO, frX, hb, hmm, hm0, hml])
  have HN0 := Lib.hid (show roomW (xb.length : Int) [room, most, xw] = (m : Int) from hmm)
  have dm : ((m : Int) == 0) = false := by rw [beq_eq_false_iff_ne]; omega
  have dl : ((m : Int) == (xb.length : Int)) = false := by rw [beq_eq_false_iff_ne]; omega
  have HM := Lib.hid (And.intro hmle hmw)
  have HXw := Lib.hid hF2.2
  have hlx := hl
  clear hb hF hF2 hz hrg hmm hm0 hml hm
  have z6 := blk_cell (j := 6) HL.out.sm rfl
  have z1 := blk_cell (j := 1) HL.out.sm rfl
  have z7 := (Array.getElem?_eq_some_iff.1 HL.out.sm).1
  have HW3 := Lib.hid hW3
  clear hW3
  go_enter Try.func54, Try.ntmps54
  go_wp2_with fail
  rw [HW3.out]
  refine (refRoom_any _ _ [room, most, xw] _ (Sl.lit (w := W3) (g := w.heap.size + 1 + 1 + 1) [room, most, xw] HL.out.size.symm rfl rfl HFt.out (by simp [maxLen]))).mono ?_
  rintro e W4 ⟨rfl, e0⟩
  rw [HN0.out]
  have HB4 := Lib.hid (show Below W3.heap.size W3 W4 from by rw [e0]; exact (Below.refl _ _).alloc (Nat.le_refl _) _)
  clear e0
  have HK4 := Lib.hid (HL.out.blk.below HB4.out)
  have HR4 := Lib.hid (HR3.out.below HB4.out)
  have hp4 := HR4.out.pay _ (List.mem_of_getElem? HY.out)
  have hn4 := HR.out.np _ (List.mem_of_getElem? HY.out)
  dsimp only at hp4 hn4
  have hn1 : xh ≠ [] → ∀ k, (Value.slice ph xh.length qh).ownBlock = some k → k ≠ R ∧ g ≠ k := fun h1 k hk => ⟨(hn4.1 h1 k hk).1, fun e => (hn4.1 h1 k hk).2 (by rw [← e]; rfl)⟩
  have hn2 : xb ≠ [] → ∀ k, (Value.slice pb xb.length pc).ownBlock = some k → k ≠ R ∧ g ≠ k := fun h1 k hk => ⟨(hn4.2 h1 k hk).1, fun e => (hn4.2 h1 k hk).2 (by rw [← e]; rfl)⟩
  obtain ⟨af, cf, hrf, hsf, hof⟩ := cut_first hp4.2 m HM.out.1
  obtain ⟨ar, cr, hrr, hsr, hor⟩ := cut_rest hp4.2 m HM.out.1
  have HCut := Lib.hid (And.intro hsf (And.intro hof (And.intro hsr hor)))
  have HNn := Lib.hid (And.intro hn1 hn2)
  have hq := HK4.out.setF 3 (.slice af m cf)
  obtain ⟨W5, hW5⟩ : ∃ W5, W4.setCell ⟨w.heap.size + 1 + 1, 3, none⟩ (.slice af m cf) = W5 := ⟨_, rfl⟩
  rw [hW5] at hq
  have HK5 := Lib.hid hq
  have y6 : W4.cell? ⟨w.heap.size + 1, 6, none⟩ = some (.slice pb xb.length pc) := blk_cell (j := 6) HK4.out.s rfl
  have y3 : W4.cell? ⟨w.heap.size + 1 + 1, 3, none⟩ = some (.slice none 0 0) := blk_cell (j := 3) HK4.out.f rfl
  have y3f : W4.frozen? ⟨w.heap.size + 1 + 1, 3, none⟩ = false := blk_free HK4.out.f
  have y4 := HK4.out.sizes
  have HR5 := Lib.hid (show RsObj W5 R (.slice (some ⟨g, 0, none⟩) N c) ys q from HR4.out.high (HN.out ▸ HR.out.lows) HK5.out.2 (fun k e => by have e' : k = w.heap.size + 1 + 1 := e; omega))
  clear z6 z1 z7 f3 hp4 hn4 hn1 hn2 hsf hsr hof hor hq hlx
  obtain ⟨y41, y42, y43⟩ := y4
  go_wp2_with fail
  have HC5 := Lib.hid (show (∀ W', Below W5.heap.size W5 W' → W'.cell? ⟨R, 1, none⟩ = some (.slice (some ⟨g, 0, none⟩) N c)) ∧ (∀ W', Below W5.heap.size W5 W' → W'.cell? ⟨w.heap.size + 1, 6, none⟩ = some (.slice pb xb.length pc)) from
    ⟨fun W' hb => (HR5.out.below hb).blk.cells.2.1, fun W' hb => blk_cell (j := 6) (HK5.out.1.below hb).s rfl⟩)
  clear c0 c1 c2 c3 c4 c5 c6 f0 f1 f2 y6 y3 y3f y41 y42 y43 hW5
  refine wp_region_table 9 [79, 80, 81, 82, 83, 84, 85, 86, 87] [[], [(0, 79)], [(1, 80)], [(2, 81)], [], [], [(5, 84)], [], [(6, 85), (7, 86)]]
    (fun i v w' => match i with
      | 0 => v = .pointer (some ⟨R, 0, none⟩)
      | 1 => v = .pointer (some ⟨R, 0, none⟩)
      | 2 => v = .pointer (some ⟨R, 1, none⟩)
      | 3 => v = .slice (some ⟨g, 0, none⟩) N c
      | 4 => v = .int .i64 (k : Int)
      | 5 => v = .pointer (some ⟨w.heap.size + 1, 6, none⟩)
      | 6 => v = .slice pb xb.length pc
      | 7 => v = .int .i64 (m : Int)
      | 8 => v = .slice ar (xb.length - m) cr
      | _ => True) (by kernel_rfl) (by kernel_rfl) ?tStab ?tOps ?tRest
  case tStab =>
    intro i v w3 w4 h hb
    match i, h with
    | 0, h | 1, h | 2, h | 3, h | 4, h | 5, h | 6, h | 7, h | 8, h => exact h
    | i + 9, _ => trivial
  case tOps =>
    simp only [List.take_succ_cons, List.take_zero, opsOk]
    refine ⟨?_, ?_, ?_, ?_, ?_, ?_, ?_, ?_, ?_, trivial⟩
    · intro ρ w3 hc hf ho hB hj
      have x0 : ρ (.tmp 0) = .pointer (some ⟨R, 0, none⟩) := ho 0 (by decide)
      simp [gives, go_sem, x0, Below.refl]
    · intro ρ w3 hc hf ho hB hj
      have x0 : ρ (.tmp 79) = .pointer (some ⟨R, 0, none⟩) := hj (0, 79) (by simp)
      simp [gives, go_sem, x0, Below.refl]
    · intro ρ w3 hc hf ho hB hj
      have x0 : ρ (.tmp 80) = .pointer (some ⟨R, 0, none⟩) := hj (1, 80) (by simp)
      simp [gives, go_sem, x0, Below.refl]
    · intro ρ w3 hc hf ho hB hj
      have x0 : ρ (.tmp 81) = .pointer (some ⟨R, 1, none⟩) := hj (2, 81) (by simp)
      have i1 := HC5.out.1 w3 hB
      simp [gives, go_sem, x0, i1, Below.refl]
    · intro ρ w3 hc hf ho hB hj
      have x0 : ρ (.tmp 1) = .int .i64 (k : Int) := ho 1 (by decide)
      simp [gives, go_sem, x0, Below.refl]
    · intro ρ w3 hc hf ho hB hj
      have x0 : ρ (.tmp 10) = .pointer (some ⟨w.heap.size + 1, 0, none⟩) := ho 10 (by decide)
      simp [gives, go_sem, x0, Below.refl]
    · intro ρ w3 hc hf ho hB hj
      have x0 : ρ (.tmp 84) = .pointer (some ⟨w.heap.size + 1, 6, none⟩) := hj (5, 84) (by simp)
      have i1 := HC5.out.2 w3 hB
      simp [gives, go_sem, x0, i1, Below.refl]
    · intro ρ w3 hc hf ho hB hj
      have x0 : ρ (.tmp 12) = .int .i64 (m : Int) := ho 12 (by decide)
      simp [gives, go_sem, x0, Below.refl]
    · intro ρ w3 hc hf ho hB hj
      have x0 : ρ (.tmp 85) = .slice pb xb.length pc := hj (6, 85) (by simp)
      have x1 : ρ (.tmp 86) = .int .i64 (m : Int) := hj (7, 86) (by simp)
      have i1 := hrr .i64
      simp [gives, go_sem, x0, x1, i1, Below.refl]
  case tRest =>
    intro X w3 hBw hX
    have x0 : X 0 = .pointer (some ⟨R, 0, none⟩) := hX 0 (by decide)
    have x1 : X 1 = .pointer (some ⟨R, 0, none⟩) := hX 1 (by decide)
    have x2 : X 2 = .pointer (some ⟨R, 1, none⟩) := hX 2 (by decide)
    have x3 : X 3 = .slice (some ⟨g, 0, none⟩) N c := hX 3 (by decide)
    have x4 : X 4 = .int .i64 (k : Int) := hX 4 (by decide)
    have x5 : X 5 = .pointer (some ⟨w.heap.size + 1, 6, none⟩) := hX 5 (by decide)
    have x6 : X 6 = .slice pb xb.length pc := hX 6 (by decide)
    have x7 : X 7 = .int .i64 (m : Int) := hX 7 (by decide)
    have x8 : X 8 = .slice ar (xb.length - m) cr := hX 8 (by decide)
    simp only [putAll, List.getD_cons_zero, List.getD_cons_succ, Act.put, List.setIfInBounds_toArray, List.set_cons_zero, List.set_cons_succ, List.drop_succ_cons, List.drop_zero]
    rw [x0, x1, x2, x3, x4, x5, x6, x7, x8]
    clear x0 x1 x2 x3 x4 x5 x6 x7 x8 hrf hrr
    obtain ⟨w6, hw6⟩ : ∃ w6, w3 = w6 := ⟨_, rfl⟩
    subst hw6
    have HR6 := Lib.hid (HR5.out.below hBw)
    have HK6 := Lib.hid (HK5.out.1.below hBw)
    have HB6 := Lib.hid hBw
    clear hBw hX
    have hp6 := HR6.out.pay _ (List.mem_of_getElem? HY.out)
    dsimp only at hp6
    have hb46 : Turn (fun k => k = w.heap.size + 1 + 1) W4 w3 := HK5.out.2.trans (Turn.of_below HB6.out)
    have hnb : ∀ z, (Value.slice pb xb.length pc).ownBlock = some z → xb ≠ [] → ¬ z = w.heap.size + 1 + 1 := fun z hz h1 e => by
      have := (HR.out.pay _ (List.mem_of_getElem? HY.out)).2.lt0 h1 hz
      omega
    have hne : ∀ l : List Int, l = xb.drop m → l ≠ [] → xb ≠ [] := fun l e h1 h2 => h1 (by rw [e, h2]; simp)
    have hr6 : Sl .u8 w3 (.slice ar (xb.length - m) cr) (xb.drop m) := HCut.out.2.2.1.turn0 hb46 (fun h1 z hz => hnb z (HCut.out.2.2.2 z hz) (hne _ rfl h1))
    have hs := set_one HR6.out HN.out HY.out (j1 := 6) (y1 := ⟨⟨xi, xw, xh, false, xs, xf, xb.drop m⟩, .slice ph xh.length qh, .slice ar (xb.length - m) cr⟩) (u1 := .slice ar (xb.length - m) cr) (by decide) rfl ⟨hp6.1, hr6⟩ ⟨HNn.out.1, fun h1 z hz => HNn.out.2 (hne _ rfl h1) z (HCut.out.2.2.2 z hz)⟩
    obtain ⟨W7, hW7⟩ : ∃ W7, w3.setCell ⟨g, k * 7 + 6, none⟩ (.slice ar (xb.length - m) cr) = W7 := ⟨_, rfl⟩
    rw [hW7] at hs
    obtain ⟨⟨⟨v1, i1⟩, i2, i3, i4, i5⟩, s7, n7, t7, u7⟩ := hs
    have HS7 := Lib.hid (And.intro s7 (And.intro n7 (And.intro t7 u7)))
    have HK7 := Lib.hid (HK6.out.turn u7 HLw.out.2.2)
    clear hp6 hb46 hnb hne hr6 s7 n7 t7 u7
    go_wp2_with fail
    have HC7 := Lib.hid (show (∀ W', Below W7.heap.size W7 W' → W'.cell? ⟨R, 1, none⟩ = some (.slice (some ⟨g, 0, none⟩) N c)) ∧ (∀ W', Below W7.heap.size W7 W' → W'.cell? ⟨w.heap.size + 1, 1, none⟩ = some (.int .i64 xw)) from
      ⟨fun W' hb => (HS7.out.1.below hb).blk.cells.2.1, fun W' hb => blk_cell (j := 1) (HK7.out.below hb).s rfl⟩)
    have HSub := Lib.hid (show IntKind.i64.wrap (xw - (m : Int)) = xw - (m : Int) from by have h1 := HM.out.2; have h2 := HXw.out; exact wrap_mid20 (by omega) (by omega))
    clear i1 i2 i3 i4 i5 hW7
    refine wp_region_table 9 [90, 91, 92, 93, 94, 95, 96, 97, 98] [[], [(0, 90)], [(1, 91)], [(2, 92)], [], [], [(5, 95)], [], [(6, 96), (7, 97)]]
      (fun i v w' => match i with
        | 0 => v = .pointer (some ⟨R, 0, none⟩)
        | 1 => v = .pointer (some ⟨R, 0, none⟩)
        | 2 => v = .pointer (some ⟨R, 1, none⟩)
        | 3 => v = .slice (some ⟨g, 0, none⟩) N c
        | 4 => v = .int .i64 (k : Int)
        | 5 => v = .pointer (some ⟨w.heap.size + 1, 1, none⟩)
        | 6 => v = .int .i64 xw
        | 7 => v = .int .i64 (m : Int)
        | 8 => v = .int .i64 (xw - (m : Int))
        | _ => True) (by kernel_rfl) (by kernel_rfl) ?uStab ?uOps ?uRest
    case uStab =>
      intro i v w8 w4 h hb
      match i, h with
      | 0, h | 1, h | 2, h | 3, h | 4, h | 5, h | 6, h | 7, h | 8, h => exact h
      | i + 9, _ => trivial
    case uOps =>
      simp only [List.take_succ_cons, List.take_zero, opsOk]
      refine ⟨?_, ?_, ?_, ?_, ?_, ?_, ?_, ?_, ?_, trivial⟩
      · intro ρ w8 hc hf ho hB hj
        have x0 : ρ (.tmp 0) = .pointer (some ⟨R, 0, none⟩) := ho 0 (by decide)
        simp [gives, go_sem, x0, Below.refl]
      · intro ρ w8 hc hf ho hB hj
        have x0 : ρ (.tmp 90) = .pointer (some ⟨R, 0, none⟩) := hj (0, 90) (by simp)
        simp [gives, go_sem, x0, Below.refl]
      · intro ρ w8 hc hf ho hB hj
        have x0 : ρ (.tmp 91) = .pointer (some ⟨R, 0, none⟩) := hj (1, 91) (by simp)
        simp [gives, go_sem, x0, Below.refl]
      · intro ρ w8 hc hf ho hB hj
        have x0 : ρ (.tmp 92) = .pointer (some ⟨R, 1, none⟩) := hj (2, 92) (by simp)
        have i1 := HC7.out.1 w8 hB
        simp [gives, go_sem, x0, i1, Below.refl]
      · intro ρ w8 hc hf ho hB hj
        have x0 : ρ (.tmp 1) = .int .i64 (k : Int) := ho 1 (by decide)
        simp [gives, go_sem, x0, Below.refl]
      · intro ρ w8 hc hf ho hB hj
        have x0 : ρ (.tmp 10) = .pointer (some ⟨w.heap.size + 1, 0, none⟩) := ho 10 (by decide)
        simp [gives, go_sem, x0, Below.refl]
      · intro ρ w8 hc hf ho hB hj
        have x0 : ρ (.tmp 95) = .pointer (some ⟨w.heap.size + 1, 1, none⟩) := hj (5, 95) (by simp)
        have i1 := HC7.out.2 w8 hB
        simp [gives, go_sem, x0, i1, Below.refl]
      · intro ρ w8 hc hf ho hB hj
        have x0 : ρ (.tmp 12) = .int .i64 (m : Int) := ho 12 (by decide)
        simp [gives, go_sem, x0, Below.refl]
      · intro ρ w8 hc hf ho hB hj
        have x0 : ρ (.tmp 96) = .int .i64 xw := hj (6, 96) (by simp)
        have x1 : ρ (.tmp 97) = .int .i64 (m : Int) := hj (7, 97) (by simp)
        have i1 := HSub.out
        simp [gives, go_sem, x0, x1, i1, Below.refl]
    case uRest =>
      intro X w8 hBv hX
      have x0 : X 0 = .pointer (some ⟨R, 0, none⟩) := hX 0 (by decide)
      have x1 : X 1 = .pointer (some ⟨R, 0, none⟩) := hX 1 (by decide)
      have x2 : X 2 = .pointer (some ⟨R, 1, none⟩) := hX 2 (by decide)
      have x3 : X 3 = .slice (some ⟨g, 0, none⟩) N c := hX 3 (by decide)
      have x4 : X 4 = .int .i64 (k : Int) := hX 4 (by decide)
      have x5 : X 5 = .pointer (some ⟨w.heap.size + 1, 1, none⟩) := hX 5 (by decide)
      have x6 : X 6 = .int .i64 xw := hX 6 (by decide)
      have x7 : X 7 = .int .i64 (m : Int) := hX 7 (by decide)
      have x8 : X 8 = .int .i64 (xw - (m : Int)) := hX 8 (by decide)
      simp only [putAll, List.getD_cons_zero, List.getD_cons_succ, Act.put, List.setIfInBounds_toArray, List.set_cons_zero, List.set_cons_succ, List.drop_succ_cons, List.drop_zero]
      rw [x0, x1, x2, x3, x4, x5, x6, x7, x8]
      clear x0 x1 x2 x3 x4 x5 x6 x7 x8
      have HR8 := Lib.hid (HS7.out.1.below hBv)
      have HK8 := Lib.hid (HK7.out.below hBv)
      have HB8 := Lib.hid hBv
      clear hBv hX
      have hp8 := HR8.out.pay _ (List.mem_of_getElem? HS7.out.2.2.1)
      have hn8 := HR8.out.np _ (List.mem_of_getElem? HS7.out.2.2.1)
      dsimp only at hp8 hn8
      have hs := set_one HR8.out HS7.out.2.1 HS7.out.2.2.1 (j1 := 1) (y1 := ⟨⟨xi, xw - (m : Int), xh, false, xs, xf, xb.drop m⟩, .slice ph xh.length qh, .slice ar (xb.length - m) cr⟩) (u1 := .int .i64 (xw - (m : Int))) (by decide) rfl hp8 ⟨fun h1 z hz => ⟨(hn8.1 h1 z hz).1, fun e => (hn8.1 h1 z hz).2 (by rw [← e]; rfl)⟩, fun h1 z hz => ⟨(hn8.2 h1 z hz).1, fun e => (hn8.2 h1 z hz).2 (by rw [← e]; rfl)⟩⟩
      obtain ⟨W10, hW10⟩ : ∃ W10, w8.setCell ⟨g, k * 7 + 1, none⟩ (.int .i64 (xw - (m : Int))) = W10 := ⟨_, rfl⟩
      rw [hW10] at hs
      obtain ⟨⟨⟨v1, i1⟩, i2, i3, i4, i5⟩, s10, n10, t10, u10⟩ := hs
      simp only [List.set_set] at s10
      have HS10 := Lib.hid (And.intro s10 u10)
      have HK10 := Lib.hid (HK8.out.turn u10 HLw.out.2.2)
      clear hp8 hn8 s10 n10 t10 u10
      have z6 : W10.cell? ⟨w.heap.size + 1, 6, none⟩ = some (.slice pb xb.length pc) := blk_cell (j := 6) HK10.out.s rfl
      have z5 : W10.cell? ⟨w.heap.size + 1, 5, none⟩ = some (.bool xf) := blk_cell (j := 5) HK10.out.s rfl
      have y0 : W10.cell? ⟨w.heap.size + 1 + 1, 0, none⟩ = some (.int .i64 0) := blk_cell (j := 0) HK10.out.f rfl
      have y1 : W10.cell? ⟨w.heap.size + 1 + 1, 1, none⟩ = some (.int .i64 0) := blk_cell (j := 1) HK10.out.f rfl
      have y2 : W10.cell? ⟨w.heap.size + 1 + 1, 2, none⟩ = some (.int .i64 xi) := blk_cell (j := 2) HK10.out.f rfl
      have y3 : W10.cell? ⟨w.heap.size + 1 + 1, 3, none⟩ = some (.slice af m cf) := blk_cell (j := 3) HK10.out.f rfl
      obtain ⟨y41, y42, y43⟩ := HK10.out.sizes
      obtain ⟨y44, y45, y46⟩ := HK10.out.sizes
      have HG8 := Lib.hid HK10.out.z
      have hlenm : (xb.take m).length = m := by rw [List.length_take]; have := HM.out.1; omega
      go_wp2_with (refine store_fr13 rfl (.tmp 8) (.tmp 111) rfl w.heap.size ⟨0, 0, xi, xb.take m⟩ af m cf _ rfl rfl HG8.out rfl ?_)
      have HZ := Lib.hid (setRow_heap _ _ _ #[.int .i64 0, .int .i64 0, .int .i64 xi, .slice af m cf] _ _ HG8.out)
      have HTz := Lib.hid (show Turn (fun k => k = w.heap.size) W10 (W10.setRow w.heap.size #[.int .i64 0, .int .i64 0, .int .i64 xi, .slice af m cf]) from Turn.of_grown (setRow_grown _ _ _))
      generalize W10.setRow w.heap.size #[.int .i64 0, .int .i64 0, .int .i64 xi, .slice af m cf] = W9 at HZ HTz ⊢
      refine bodyPost_ret (results_row_tmp1 rfl _ _ w.heap.size 34 #[.int .i64 0, .int .i64 0, .int .i64 xi, .slice af m cf] (0, 0) _ rfl HZ.out Try.underlying34 rfl (by kernel_rfl)) rfl ?_
      have hn := HLw.out
      have HT9 : Turn (fun k => w.heap.size ≤ k) W10 W9 := (HTz.out.mono (fun k _ e => by have e' : k = w.heap.size := e; omega))
      have b4 : Below w.heap.size w W4 := HL.out.below.trans (HB4.out.mono HL.out.below.size)
      have t5 : Turn (fun k => k = g ∨ w.heap.size ≤ k) W4 W9 :=
        (((HK5.out.2.mono (fun k _ e => by have e' : k = w.heap.size + 1 + 1 := e; omega)).trans (Turn.of_below HB6.out)).trans (HS7.out.2.2.2.mono (fun k _ e => .inl e))).trans (((Turn.of_below HB8.out).trans (HS10.out.2.mono (fun k _ e => .inl e))).trans (HT9.mono (fun k _ e => .inr e)))
      have ht : Turn (fun k => k = g) w W9 := (Turn.of_below b4).trans' t5 (fun k hk e => by
        rcases e with e | e
        · exact e
        · omega)
      have hn0 := HR.out.np _ (List.mem_of_getElem? HY.out)
      have hp0 := HR.out.pay _ (List.mem_of_getElem? HY.out)
      dsimp only at hn0 hp0
      have hnt : xb.take m ≠ [] → xb ≠ [] := fun h1 h2 => h1 (by rw [h2]; simp)
      have hnd : xb.drop m ≠ [] → xb ≠ [] := fun h1 h2 => h1 (by rw [h2]; simp)
      unfold Frm20
      dsimp only
      rw [HE.out.1, HE.out.2.1, HE.out.2.2]
      refine ⟨_, .slice ph xh.length qh, .slice ar (xb.length - m) cr, rfl, HCut.out.1.turn0 t5 (fun h1 k hk e => ?_), fun h1 g hg => .inr ⟨hnt h1, HCut.out.2.1 g hg⟩, ?_, ht.mono (fun k _ e => by rw [show k = g from e]; rfl), fun h1 g hg => ⟨h1, hg⟩, fun h1 g hg => ⟨hnd h1, HCut.out.2.2.2 g hg⟩⟩
      · have h2 := HCut.out.2.1 k hk
        rcases e with e | e
        · exact (hn0.2 (hnt h1) k h2).2 (by rw [e]; rfl)
        · have := hp0.2.lt0 (hnt h1) h2; omega
      · have hh := HS10.out.1.high ((HN.out ▸ HR.out.lows).set k ⟨fun h1 g hg => hp0.1.lt0 h1 hg, fun h1 g hg => hp0.2.lt0 (hnd h1) (HCut.out.2.2.2 g hg)⟩) HT9 (fun _ e => e)
        rw [HN.out]
        exact hh
set_option maxHeartbeats 4000000 in
theorem rframe20_D3 (R : Nat) (lv : Value) (ys : List SmV) (q : Sd) (k : Nat) (y : SmV) (room most : Int) (w : World) (h : RsObj w R lv ys q) (hy : ys[k]? = some y) (hw : y.x.waits = false) (hb : y.x.b ≠ []) (hF : (Lit.int .i64 room).wf = true ∧ (Lit.int .i64 most).wf = true) (hF2 : -9223372036854775808 ≤ y.x.win ∧ y.x.win ≤ 9223372036854775807) (hz : frN y.x room most ≠ 0) (hl : y.x.b.length ≤ 1000000) (hm : frN y.x room most = y.x.b.length) (hf : y.x.fin = false) :
    Calls Try.prog 54 #[.pointer (some ⟨R, 0, none⟩), .int .i64 (k : Int), .int .i64 room, .int .i64 most] w fun e w' => Frm20 w R lv ys q k y room most e w' := by
  obtain ⟨g, c, elv, hk, hc1, hc2, hgR, hgl, hfr, hcell⟩ := h.shape hy
  unfold maxLen at hc2
  have HR := Lib.hid (show RsObj w R (.slice (some ⟨g, 0, none⟩) ys.length c) ys q from elv ▸ h)
  subst elv
  obtain ⟨⟨xi, xw, xh, xa, xs, xf, xb⟩, hv, bv⟩ := y
  have hpy := HR.out.pay _ (List.mem_of_getElem? hy)
  dsimp only at hpy hw hb hF hF2 hz hl hm hf
  obtain ⟨⟨ph, qh, rfl, _⟩, ⟨pb, pc, rfl, _⟩⟩ := hpy
  subst hw
  subst hf
  have d0 : ((xb.length : Int) == 0) = false := by have := List.length_pos_iff.2 hb; rw [beq_eq_false_iff_ne]; omega
  have HY := Lib.hid hy
  have c0 := hcell 0 (by decide)
  have c1 := hcell 1 (by decide)
  have c2 := hcell 2 (by decide)
  have c3 := hcell 3 (by decide)
  have c4 := hcell 4 (by decide)
  have c5 := hcell 5 (by decide)
  have c6 := hcell 6 (by decide)
  simp only [smC, List.getElem?_cons_succ, List.getElem?_cons_zero, Nat.add_zero] at c0 c1 c2 c3 c4 c5 c6
  obtain ⟨f0, f1, f2⟩ := HR.out.blk.cells
  obtain ⟨N, hN⟩ : ∃ N, ys.length = N := ⟨_, rfl⟩
  have HN := Lib.hid hN
  rw [hN] at f1 hk hc1
  have hix := fun q => run_index_sl (P := Try.prog) (t := 62) (s := 7) Try.underlying62 (fun _ => by kernel_rfl) g 0 N c k hk q
  simp only [Nat.zero_add] at hix
  clear hcell hfr h hy hN
  obtain ⟨W3, hW3⟩ : ∃ W3, ((w.alloc (.cells #[.int .i64 0, .int .i64 0, .int .i64 0, .slice none 0 0] 34)).alloc (.cells #[.int .i64 xi, .int .i64 xw, .slice ph xh.length qh, .bool false, .bool xs, .bool false, .slice pb xb.length pc] 72)).alloc (.cells #[.int .i64 0, .int .i64 0, .int .i64 xi, .slice none 0 0] 34) = W3 := ⟨_, rfl⟩
  have HL := Lib.hid (show Laid20 w W3 ⟨⟨xi, xw, xh, false, xs, false, xb⟩, .slice ph xh.length qh, .slice pb xb.length pc⟩ [.int .i64 0, .int .i64 0, .int .i64 xi, .slice none 0 0] from ⟨hW3.symm⟩)
  have HR3 := Lib.hid (show RsObj W3 R (.slice (some ⟨g, 0, none⟩) N c) ys q from by rw [← HN.out]; exact HR.out.below HL.out.below)
  have HLw := Lib.hid (show w.heap.size = w.heap.size ∧ R < w.heap.size ∧ g < w.heap.size from ⟨rfl, f2, hgl⟩)
  have f3 := HR3.out.blk.cells.2.1
  have HFt := Lib.hid (show ([room, most, xw].all fun n => (Lit.int .i64 n).wf) = true by simp [hF.1, hF.2, WalkArith.wf_i64 hF2])
  have hrg := frN_rng ⟨xi, xw, xh, false, xs, false, xb⟩ room most
  dsimp only at hrg
  obtain ⟨m, hmm⟩ : ∃ m : Nat, frN ⟨xi, xw, xh, false, xs, false, xb⟩ room most = (m : Int) := ⟨(frN ⟨xi, xw, xh, false, xs, false, xb⟩ room most).toNat, by omega⟩
  have hmle : m ≤ xb.length := by omega
  have hm0 : m ≠ 0 := by omega
  have hmw : (m : Int) ≤ xw := by rw [hmm] at hrg; exact (hrg.2.2 (by omega)).1
  have hml : (m : Int) = xb.length := by omega
  have HE := Lib.hid (show frF ⟨xi, xw, xh, false, xs, false, xb⟩ room most = ⟨0, 0, xi, xb.take m⟩ ∧ frO ⟨xi, xw, xh, false, xs, false, xb⟩ room most = true ∧ frX ⟨xi, xw, xh, false, xs, false, xb⟩ room most = ⟨xi, xw - (m : Int), xh, false, xs, false, xb.drop m⟩ from by
    have hz1 : ¬ (m : Int) = 0 := by omega
    simp [frF, frO, frX, hb, hmm, hm0])
  have HN0 := Lib.hid (show roomW (xb.length : Int) [room, most, xw] = (m : Int) from hmm)
  have dm : ((m : Int) == 0) = false := by rw [beq_eq_false_iff_ne]; omega
  have dl : ((m : Int) == (xb.length : Int)) = true := by rw [beq_iff_eq]; omega
  have HM := Lib.hid (And.intro hmle hmw)
  have HXw := Lib.hid hF2.2
  have hlx := hl
  clear hb hF hF2 hz hrg hmm hm0 hml hm
  have z6 := blk_cell (j := 6) HL.out.sm rfl
  have z1 := blk_cell (j := 1) HL.out.sm rfl
  have z7 := (Array.getElem?_eq_some_iff.1 HL.out.sm).1
  have HW3 := Lib.hid hW3
  clear hW3
  go_enter Try.func54, Try.ntmps54
  go_wp2_with fail
  rw [HW3.out]
  refine (refRoom_any _ _ [room, most, xw] _ (Sl.lit (w := W3) (g := w.heap.size + 1 + 1 + 1) [room, most, xw] HL.out.size.symm rfl rfl HFt.out (by simp [maxLen]))).mono ?_
  rintro e W4 ⟨rfl, e0⟩
  rw [HN0.out]
  have HB4 := Lib.hid (show Below W3.heap.size W3 W4 from by rw [e0]; exact (Below.refl _ _).alloc (Nat.le_refl _) _)
  clear e0
  have HK4 := Lib.hid (HL.out.blk.below HB4.out)
  have HR4 := Lib.hid (HR3.out.below HB4.out)
  have hp4 := HR4.out.pay _ (List.mem_of_getElem? HY.out)
  have hn4 := HR.out.np _ (List.mem_of_getElem? HY.out)
  dsimp only at hp4 hn4
  have hn1 : xh ≠ [] → ∀ k, (Value.slice ph xh.length qh).ownBlock = some k → k ≠ R ∧ g ≠ k := fun h1 k hk => ⟨(hn4.1 h1 k hk).1, fun e => (hn4.1 h1 k hk).2 (by rw [← e]; rfl)⟩
  have hn2 : xb ≠ [] → ∀ k, (Value.slice pb xb.length pc).ownBlock = some k → k ≠ R ∧ g ≠ k := fun h1 k hk => ⟨(hn4.2 h1 k hk).1, fun e => (hn4.2 h1 k hk).2 (by rw [← e]; rfl)⟩
  obtain ⟨af, cf, hrf, hsf, hof⟩ := cut_first hp4.2 m HM.out.1
  obtain ⟨ar, cr, hrr, hsr, hor⟩ := cut_rest hp4.2 m HM.out.1
  have HCut := Lib.hid (And.intro hsf (And.intro hof (And.intro hsr hor)))
  have HNn := Lib.hid (And.intro hn1 hn2)
  have hq := HK4.out.setF 3 (.slice af m cf)
  obtain ⟨W5, hW5⟩ : ∃ W5, W4.setCell ⟨w.heap.size + 1 + 1, 3, none⟩ (.slice af m cf) = W5 := ⟨_, rfl⟩
  rw [hW5] at hq
  have HK5 := Lib.hid hq
  have y6 : W4.cell? ⟨w.heap.size + 1, 6, none⟩ = some (.slice pb xb.length pc) := blk_cell (j := 6) HK4.out.s rfl
  have y3 : W4.cell? ⟨w.heap.size + 1 + 1, 3, none⟩ = some (.slice none 0 0) := blk_cell (j := 3) HK4.out.f rfl
  have y3f : W4.frozen? ⟨w.heap.size + 1 + 1, 3, none⟩ = false := blk_free HK4.out.f
  have y4 := HK4.out.sizes
  have HR5 := Lib.hid (show RsObj W5 R (.slice (some ⟨g, 0, none⟩) N c) ys q from HR4.out.high (HN.out ▸ HR.out.lows) HK5.out.2 (fun k e => by have e' : k = w.heap.size + 1 + 1 := e; omega))
  clear z6 z1 z7 f3 hp4 hn4 hn1 hn2 hsf hsr hof hor hq hlx
  obtain ⟨y41, y42, y43⟩ := y4
  go_wp2_with fail
  have HC5 := Lib.hid (show (∀ W', Below W5.heap.size W5 W' → W'.cell? ⟨R, 1, none⟩ = some (.slice (some ⟨g, 0, none⟩) N c)) ∧ (∀ W', Below W5.heap.size W5 W' → W'.cell? ⟨w.heap.size + 1, 6, none⟩ = some (.slice pb xb.length pc)) from
    ⟨fun W' hb => (HR5.out.below hb).blk.cells.2.1, fun W' hb => blk_cell (j := 6) (HK5.out.1.below hb).s rfl⟩)
  clear c0 c1 c2 c3 c4 c5 c6 f0 f1 f2 y6 y3 y3f y41 y42 y43 hW5
  refine wp_region_table 9 [79, 80, 81, 82, 83, 84, 85, 86, 87] [[], [(0, 79)], [(1, 80)], [(2, 81)], [], [], [(5, 84)], [], [(6, 85), (7, 86)]]
    (fun i v w' => match i with
      | 0 => v = .pointer (some ⟨R, 0, none⟩)
      | 1 => v = .pointer (some ⟨R, 0, none⟩)
      | 2 => v = .pointer (some ⟨R, 1, none⟩)
      | 3 => v = .slice (some ⟨g, 0, none⟩) N c
      | 4 => v = .int .i64 (k : Int)
      | 5 => v = .pointer (some ⟨w.heap.size + 1, 6, none⟩)
      | 6 => v = .slice pb xb.length pc
      | 7 => v = .int .i64 (m : Int)
      | 8 => v = .slice ar (xb.length - m) cr
      | _ => True) (by kernel_rfl) (by kernel_rfl) ?tStab ?tOps ?tRest
  case tStab =>
    intro i v w3 w4 h hb
    match i, h with
    | 0, h | 1, h | 2, h | 3, h | 4, h | 5, h | 6, h | 7, h | 8, h => exact h
    | i + 9, _ => trivial
  case tOps =>
    simp only [List.take_succ_cons, List.take_zero, opsOk]
    refine ⟨?_, ?_, ?_, ?_, ?_, ?_, ?_, ?_, ?_, trivial⟩
    · intro ρ w3 hc hf ho hB hj
      have x0 : ρ (.tmp 0) = .pointer (some ⟨R, 0, none⟩) := ho 0 (by decide)
      simp [gives, go_sem, x0, Below.refl]
    · intro ρ w3 hc hf ho hB hj
      have x0 : ρ (.tmp 79) = .pointer (some ⟨R, 0, none⟩) := hj (0, 79) (by simp)
      simp [gives, go_sem, x0, Below.refl]
    · intro ρ w3 hc hf ho hB hj
      have x0 : ρ (.tmp 80) = .pointer (some ⟨R, 0, none⟩) := hj (1, 80) (by simp)
      simp [gives, go_sem, x0, Below.refl]
    · intro ρ w3 hc hf ho hB hj
      have x0 : ρ (.tmp 81) = .pointer (some ⟨R, 1, none⟩) := hj (2, 81) (by simp)
      have i1 := HC5.out.1 w3 hB
      simp [gives, go_sem, x0, i1, Below.refl]
    · intro ρ w3 hc hf ho hB hj
      have x0 : ρ (.tmp 1) = .int .i64 (k : Int) := ho 1 (by decide)
      simp [gives, go_sem, x0, Below.refl]
    · intro ρ w3 hc hf ho hB hj
      have x0 : ρ (.tmp 10) = .pointer (some ⟨w.heap.size + 1, 0, none⟩) := ho 10 (by decide)
      simp [gives, go_sem, x0, Below.refl]
    · intro ρ w3 hc hf ho hB hj
      have x0 : ρ (.tmp 84) = .pointer (some ⟨w.heap.size + 1, 6, none⟩) := hj (5, 84) (by simp)
      have i1 := HC5.out.2 w3 hB
      simp [gives, go_sem, x0, i1, Below.refl]
    · intro ρ w3 hc hf ho hB hj
      have x0 : ρ (.tmp 12) = .int .i64 (m : Int) := ho 12 (by decide)
      simp [gives, go_sem, x0, Below.refl]
    · intro ρ w3 hc hf ho hB hj
      have x0 : ρ (.tmp 85) = .slice pb xb.length pc := hj (6, 85) (by simp)
      have x1 : ρ (.tmp 86) = .int .i64 (m : Int) := hj (7, 86) (by simp)
      have i1 := hrr .i64
      simp [gives, go_sem, x0, x1, i1, Below.refl]
  case tRest =>
    intro X w3 hBw hX
    have x0 : X 0 = .pointer (some ⟨R, 0, none⟩) := hX 0 (by decide)
    have x1 : X 1 = .pointer (some ⟨R, 0, none⟩) := hX 1 (by decide)
    have x2 : X 2 = .pointer (some ⟨R, 1, none⟩) := hX 2 (by decide)
    have x3 : X 3 = .slice (some ⟨g, 0, none⟩) N c := hX 3 (by decide)
    have x4 : X 4 = .int .i64 (k : Int) := hX 4 (by decide)
    have x5 : X 5 = .pointer (some ⟨w.heap.size + 1, 6, none⟩) := hX 5 (by decide)
    have x6 : X 6 = .slice pb xb.length pc := hX 6 (by decide)
    have x7 : X 7 = .int .i64 (m : Int) := hX 7 (by decide)
    have x8 : X 8 = .slice ar (xb.length - m) cr := hX 8 (by decide)
    simp only [putAll, List.getD_cons_zero, List.getD_cons_succ, Act.put, List.setIfInBounds_toArray, List.set_cons_zero, List.set_cons_succ, List.drop_succ_cons, List.drop_zero]
    rw [x0, x1, x2, x3, x4, x5, x6, x7, x8]
    clear x0 x1 x2 x3 x4 x5 x6 x7 x8 hrf hrr
    obtain ⟨w6, hw6⟩ : ∃ w6, w3 = w6 := ⟨_, rfl⟩
    subst hw6
    have HR6 := Lib.hid (HR5.out.below hBw)
    have HK6 := Lib.hid (HK5.out.1.below hBw)
    have HB6 := Lib.hid hBw
    clear hBw hX
    have hp6 := HR6.out.pay _ (List.mem_of_getElem? HY.out)
    dsimp only at hp6
    have hb46 : Turn (fun k => k = w.heap.size + 1 + 1) W4 w3 := HK5.out.2.trans (Turn.of_below HB6.out)
    have hnb : ∀ z, (Value.slice pb xb.length pc).ownBlock = some z → xb ≠ [] → ¬ z = w.heap.size + 1 + 1 := fun z hz h1 e => by
      have := (HR.out.pay _ (List.mem_of_getElem? HY.out)).2.lt0 h1 hz
      omega
    have hne : ∀ l : List Int, l = xb.drop m → l ≠ [] → xb ≠ [] := fun l e h1 h2 => h1 (by rw [e, h2]; simp)
    have hr6 : Sl .u8 w3 (.slice ar (xb.length - m) cr) (xb.drop m) := HCut.out.2.2.1.turn0 hb46 (fun h1 z hz => hnb z (HCut.out.2.2.2 z hz) (hne _ rfl h1))
    have hs := set_one HR6.out HN.out HY.out (j1 := 6) (y1 := ⟨⟨xi, xw, xh, false, xs, false, xb.drop m⟩, .slice ph xh.length qh, .slice ar (xb.length - m) cr⟩) (u1 := .slice ar (xb.length - m) cr) (by decide) rfl ⟨hp6.1, hr6⟩ ⟨HNn.out.1, fun h1 z hz => HNn.out.2 (hne _ rfl h1) z (HCut.out.2.2.2 z hz)⟩
    obtain ⟨W7, hW7⟩ : ∃ W7, w3.setCell ⟨g, k * 7 + 6, none⟩ (.slice ar (xb.length - m) cr) = W7 := ⟨_, rfl⟩
    rw [hW7] at hs
    obtain ⟨⟨⟨v1, i1⟩, i2, i3, i4, i5⟩, s7, n7, t7, u7⟩ := hs
    have HS7 := Lib.hid (And.intro s7 (And.intro n7 (And.intro t7 u7)))
    have HK7 := Lib.hid (HK6.out.turn u7 HLw.out.2.2)
    clear hp6 hb46 hnb hne hr6 s7 n7 t7 u7
    go_wp2_with fail
    have HC7 := Lib.hid (show (∀ W', Below W7.heap.size W7 W' → W'.cell? ⟨R, 1, none⟩ = some (.slice (some ⟨g, 0, none⟩) N c)) ∧ (∀ W', Below W7.heap.size W7 W' → W'.cell? ⟨w.heap.size + 1, 1, none⟩ = some (.int .i64 xw)) from
      ⟨fun W' hb => (HS7.out.1.below hb).blk.cells.2.1, fun W' hb => blk_cell (j := 1) (HK7.out.below hb).s rfl⟩)
    have HSub := Lib.hid (show IntKind.i64.wrap (xw - (m : Int)) = xw - (m : Int) from by have h1 := HM.out.2; have h2 := HXw.out; exact wrap_mid20 (by omega) (by omega))
    clear i1 i2 i3 i4 i5 hW7
    refine wp_region_table 9 [90, 91, 92, 93, 94, 95, 96, 97, 98] [[], [(0, 90)], [(1, 91)], [(2, 92)], [], [], [(5, 95)], [], [(6, 96), (7, 97)]]
      (fun i v w' => match i with
        | 0 => v = .pointer (some ⟨R, 0, none⟩)
        | 1 => v = .pointer (some ⟨R, 0, none⟩)
        | 2 => v = .pointer (some ⟨R, 1, none⟩)
        | 3 => v = .slice (some ⟨g, 0, none⟩) N c
        | 4 => v = .int .i64 (k : Int)
        | 5 => v = .pointer (some ⟨w.heap.size + 1, 1, none⟩)
        | 6 => v = .int .i64 xw
        | 7 => v = .int .i64 (m : Int)
        | 8 => v = .int .i64 (xw - (m : Int))
        | _ => True) (by kernel_rfl) (by kernel_rfl) ?uStab ?uOps ?uRest
    case uStab =>
      intro i v w8 w4 h hb
      match i, h with
      | 0, h | 1, h | 2, h | 3, h | 4, h | 5, h | 6, h | 7, h | 8, h => exact h
      | i + 9, _ => trivial
    case uOps =>
      simp only [List.take_succ_cons, List.take_zero, opsOk]
      refine ⟨?_, ?_, ?_, ?_, ?_, ?_, ?_, ?_, ?_, trivial⟩
      · intro ρ w8 hc hf ho hB hj
        have x0 : ρ (.tmp 0) = .pointer (some ⟨R, 0, none⟩) := ho 0 (by decide)
        simp [gives, go_sem, x0, Below.refl]
      · intro ρ w8 hc hf ho hB hj
        have x0 : ρ (.tmp 90) = .pointer (some ⟨R, 0, none⟩) := hj (0, 90) (by simp)
        simp [gives, go_sem, x0, Below.refl]
      · intro ρ w8 hc hf ho hB hj
        have x0 : ρ (.tmp 91) = .pointer (some ⟨R, 0, none⟩) := hj (1, 91) (by simp)
        simp [gives, go_sem, x0, Below.refl]
      · intro ρ w8 hc hf ho hB hj
        have x0 : ρ (.tmp 92) = .pointer (some ⟨R, 1, none⟩) := hj (2, 92) (by simp)
        have i1 := HC7.out.1 w8 hB
        simp [gives, go_sem, x0, i1, Below.refl]
      · intro ρ w8 hc hf ho hB hj
        have x0 : ρ (.tmp 1) = .int .i64 (k : Int) := ho 1 (by decide)
        simp [gives, go_sem, x0, Below.refl]
      · intro ρ w8 hc hf ho hB hj
        have x0 : ρ (.tmp 10) = .pointer (some ⟨w.heap.size + 1, 0, none⟩) := ho 10 (by decide)
        simp [gives, go_sem, x0, Below.refl]
      · intro ρ w8 hc hf ho hB hj
        have x0 : ρ (.tmp 95) = .pointer (some ⟨w.heap.size + 1, 1, none⟩) := hj (5, 95) (by simp)
        have i1 := HC7.out.2 w8 hB
        simp [gives, go_sem, x0, i1, Below.refl]
      · intro ρ w8 hc hf ho hB hj
        have x0 : ρ (.tmp 12) = .int .i64 (m : Int) := ho 12 (by decide)
        simp [gives, go_sem, x0, Below.refl]
      · intro ρ w8 hc hf ho hB hj
        have x0 : ρ (.tmp 96) = .int .i64 xw := hj (6, 96) (by simp)
        have x1 : ρ (.tmp 97) = .int .i64 (m : Int) := hj (7, 97) (by simp)
        have i1 := HSub.out
        simp [gives, go_sem, x0, x1, i1, Below.refl]
    case uRest =>
      intro X w8 hBv hX
      have x0 : X 0 = .pointer (some ⟨R, 0, none⟩) := hX 0 (by decide)
      have x1 : X 1 = .pointer (some ⟨R, 0, none⟩) := hX 1 (by decide)
      have x2 : X 2 = .pointer (some ⟨R, 1, none⟩) := hX 2 (by decide)
      have x3 : X 3 = .slice (some ⟨g, 0, none⟩) N c := hX 3 (by decide)
      have x4 : X 4 = .int .i64 (k : Int) := hX 4 (by decide)
      have x5 : X 5 = .pointer (some ⟨w.heap.size + 1, 1, none⟩) := hX 5 (by decide)
      have x6 : X 6 = .int .i64 xw := hX 6 (by decide)
      have x7 : X 7 = .int .i64 (m : Int) := hX 7 (by decide)
      have x8 : X 8 = .int .i64 (xw - (m : Int)) := hX 8 (by decide)
      simp only [putAll, List.getD_cons_zero, List.getD_cons_succ, Act.put, List.setIfInBounds_toArray, List.set_cons_zero, List.set_cons_succ, List.drop_succ_cons, List.drop_zero]
      rw [x0, x1, x2, x3, x4, x5, x6, x7, x8]
      clear x0 x1 x2 x3 x4 x5 x6 x7 x8
      have HR8 := Lib.hid (HS7.out.1.below hBv)
      have HK8 := Lib.hid (HK7.out.below hBv)
      have HB8 := Lib.hid hBv
      clear hBv hX
      have hp8 := HR8.out.pay _ (List.mem_of_getElem? HS7.out.2.2.1)
      have hn8 := HR8.out.np _ (List.mem_of_getElem? HS7.out.2.2.1)
      dsimp only at hp8 hn8
      have hs := set_one HR8.out HS7.out.2.1 HS7.out.2.2.1 (j1 := 1) (y1 := ⟨⟨xi, xw - (m : Int), xh, false, xs, false, xb.drop m⟩, .slice ph xh.length qh, .slice ar (xb.length - m) cr⟩) (u1 := .int .i64 (xw - (m : Int))) (by decide) rfl hp8 ⟨fun h1 z hz => ⟨(hn8.1 h1 z hz).1, fun e => (hn8.1 h1 z hz).2 (by rw [← e]; rfl)⟩, fun h1 z hz => ⟨(hn8.2 h1 z hz).1, fun e => (hn8.2 h1 z hz).2 (by rw [← e]; rfl)⟩⟩
      obtain ⟨W10, hW10⟩ : ∃ W10, w8.setCell ⟨g, k * 7 + 1, none⟩ (.int .i64 (xw - (m : Int))) = W10 := ⟨_, rfl⟩
      rw [hW10] at hs
      obtain ⟨⟨⟨v1, i1⟩, i2, i3, i4, i5⟩, s10, n10, t10, u10⟩ := hs
      simp only [List.set_set] at s10
      have HS10 := Lib.hid (And.intro s10 u10)
      have HK10 := Lib.hid (HK8.out.turn u10 HLw.out.2.2)
      clear hp8 hn8 s10 n10 t10 u10
      have z6 : W10.cell? ⟨w.heap.size + 1, 6, none⟩ = some (.slice pb xb.length pc) := blk_cell (j := 6) HK10.out.s rfl
      have z5 : W10.cell? ⟨w.heap.size + 1, 5, none⟩ = some (.bool false) := blk_cell (j := 5) HK10.out.s rfl
      have y0 : W10.cell? ⟨w.heap.size + 1 + 1, 0, none⟩ = some (.int .i64 0) := blk_cell (j := 0) HK10.out.f rfl
      have y1 : W10.cell? ⟨w.heap.size + 1 + 1, 1, none⟩ = some (.int .i64 0) := blk_cell (j := 1) HK10.out.f rfl
      have y2 : W10.cell? ⟨w.heap.size + 1 + 1, 2, none⟩ = some (.int .i64 xi) := blk_cell (j := 2) HK10.out.f rfl
      have y3 : W10.cell? ⟨w.heap.size + 1 + 1, 3, none⟩ = some (.slice af m cf) := blk_cell (j := 3) HK10.out.f rfl
      obtain ⟨y41, y42, y43⟩ := HK10.out.sizes
      obtain ⟨y44, y45, y46⟩ := HK10.out.sizes
      have HG8 := Lib.hid HK10.out.z
      have hlenm : (xb.take m).length = m := by rw [List.length_take]; have := HM.out.1; omega
      go_wp2_with (refine store_fr13 rfl (.tmp 8) (.tmp 111) rfl w.heap.size ⟨0, 0, xi, xb.take m⟩ af m cf _ rfl rfl HG8.out rfl ?_)
      have HZ := Lib.hid (setRow_heap _ _ _ #[.int .i64 0, .int .i64 0, .int .i64 xi, .slice af m cf] _ _ HG8.out)
      have HTz := Lib.hid (show Turn (fun k => k = w.heap.size) W10 (W10.setRow w.heap.size #[.int .i64 0, .int .i64 0, .int .i64 xi, .slice af m cf]) from Turn.of_grown (setRow_grown _ _ _))
      generalize W10.setRow w.heap.size #[.int .i64 0, .int .i64 0, .int .i64 xi, .slice af m cf] = W9 at HZ HTz ⊢
      refine bodyPost_ret (results_row_tmp1 rfl _ _ w.heap.size 34 #[.int .i64 0, .int .i64 0, .int .i64 xi, .slice af m cf] (0, 0) _ rfl HZ.out Try.underlying34 rfl (by kernel_rfl)) rfl ?_
      have hn := HLw.out
      have HT9 : Turn (fun k => w.heap.size ≤ k) W10 W9 := (HTz.out.mono (fun k _ e => by have e' : k = w.heap.size := e; omega))
      have b4 : Below w.heap.size w W4 := HL.out.below.trans (HB4.out.mono HL.out.below.size)
      have t5 : Turn (fun k => k = g ∨ w.heap.size ≤ k) W4 W9 :=
        (((HK5.out.2.mono (fun k _ e => by have e' : k = w.heap.size + 1 + 1 := e; omega)).trans (Turn.of_below HB6.out)).trans (HS7.out.2.2.2.mono (fun k _ e => .inl e))).trans (((Turn.of_below HB8.out).trans (HS10.out.2.mono (fun k _ e => .inl e))).trans (HT9.mono (fun k _ e => .inr e)))
      have ht : Turn (fun k => k = g) w W9 := (Turn.of_below b4).trans' t5 (fun k hk e => by
        rcases e with e | e
        · exact e
        · omega)
      have hn0 := HR.out.np _ (List.mem_of_getElem? HY.out)
      have hp0 := HR.out.pay _ (List.mem_of_getElem? HY.out)
      dsimp only at hn0 hp0
      have hnt : xb.take m ≠ [] → xb ≠ [] := fun h1 h2 => h1 (by rw [h2]; simp)
      have hnd : xb.drop m ≠ [] → xb ≠ [] := fun h1 h2 => h1 (by rw [h2]; simp)
      unfold Frm20
      dsimp only
      rw [HE.out.1, HE.out.2.1, HE.out.2.2]
      refine ⟨_, .slice ph xh.length qh, .slice ar (xb.length - m) cr, rfl, HCut.out.1.turn0 t5 (fun h1 k hk e => ?_), fun h1 g hg => .inr ⟨hnt h1, HCut.out.2.1 g hg⟩, ?_, ht.mono (fun k _ e => by rw [show k = g from e]; rfl), fun h1 g hg => ⟨h1, hg⟩, fun h1 g hg => ⟨hnd h1, HCut.out.2.2.2 g hg⟩⟩
      · have h2 := HCut.out.2.1 k hk
        rcases e with e | e
        · exact (hn0.2 (hnt h1) k h2).2 (by rw [e]; rfl)
        · have := hp0.2.lt0 (hnt h1) h2; omega
      · have hh := HS10.out.1.high ((HN.out ▸ HR.out.lows).set k ⟨fun h1 g hg => hp0.1.lt0 h1 hg, fun h1 g hg => hp0.2.lt0 (hnd h1) (HCut.out.2.2.2 g hg)⟩) HT9 (fun _ e => e)
        rw [HN.out]
        exact hh
end Go.Proofs.Ytnoegbdmjinfjaa

/-
  Layer 20's reference: the sender, frame in one statement, Next.
-/
namespace Go.Proofs.Ytnoegbdmjinfjaa
set_option maxRecDepth 20000
open Go.RowKit

/-- the numbers that a sender holds are small -/
def Small20 (q : Sd) : Prop := q.l.length ≤ 1000 ∧ ∀ x ∈ q.l, (-9223372036854775808 ≤ x.win ∧ x.win ≤ 9223372036854775807) ∧ x.b.length ≤ 1000000 ∧ x.head.length ≤ 1000000
theorem rframe20_any (R : Nat) (lv : Value) (ys : List SmV) (q : Sd) (k : Nat) (y : SmV) (room most : Int) (w : World) (h : RsObj w R lv ys q) (hy : ys[k]? = some y) (hF : (Lit.int .i64 room).wf = true ∧ (Lit.int .i64 most).wf = true) (hq : Small20 q) :
    Calls Try.prog 54 #[.pointer (some ⟨R, 0, none⟩), .int .i64 (k : Int), .int .i64 room, .int .i64 most] w fun e w' => Frm20 w R lv ys q k y room most e w' := by
  have hx := hq.2 y.x (List.mem_of_getElem? (show q.l[k]? = some y.x by rw [h.e, List.getElem?_map, hy]; rfl))
  by_cases hw : y.x.waits = true
  · by_cases hf : y.x.fin = true
    · by_cases hb : y.x.b = []
      · exact rframe20_A1 R lv ys q k y room most w h hy hw hf hb
      · exact rframe20_A3 R lv ys q k y room most w h hy hw hf hb
    · exact rframe20_A2 R lv ys q k y room most w h hy hw (by simpa using hf)
  · have hw : y.x.waits = false := by simpa using hw
    by_cases hb : y.x.b = []
    · exact rframe20_B R lv ys q k y room most w h hy hw hb
    · by_cases hz : frN y.x room most = 0
      · exact rframe20_C R lv ys q k y room most w h hy hw hb hF hx.1 hz
      · by_cases hm : frN y.x room most = y.x.b.length
        · by_cases hf : y.x.fin = true
          · exact rframe20_D1 R lv ys q k y room most w h hy hw hb hF hx.1 hz hx.2.1 hm hf
          · exact rframe20_D3 R lv ys q k y room most w h hy hw hb hF hx.1 hz hx.2.1 hm (by simpa using hf)
        · exact rframe20_D2 R lv ys q k y room most w h hy hw hb hF hx.1 hz hx.2.1 hm
theorem frO_no {x : Sm} {room most : Int} (h : frO x room most = false) : frX x room most = x := by
  unfold frO at h
  unfold frX
  by_cases h1 : x.waits = true
  · rw [if_pos h1] at h; cases h
  · rw [if_neg h1] at h ⊢
    by_cases h2 : x.b = []
    · rw [if_pos h2]
    · rw [if_neg h2] at h ⊢
      rw [if_pos (by simpa using h)]
theorem frX_id (x : Sm) (room most : Int) : (frX x room most).id = x.id := by
  unfold frX
  split
  · rfl
  · split
    · rfl
    · split <;> rfl
theorem frF_stream (x : Sm) (room most : Int) : (frF x room most).stream = x.id := by
  unfold frF
  split
  · rfl
  · split
    · rfl
    · split <;> rfl
theorem frF_flags (x : Sm) (room most : Int) : (frF x room most).flags = 0 ∨ (frF x room most).flags = 1 ∨ (frF x room most).flags = 4 ∨ (frF x room most).flags = 5 := by
  unfold frF
  split
  · dsimp only; split <;> simp
  · split
    · simp
    · split
      · simp
      · dsimp only; split <;> simp
/-- the blocks of a stream's head and bytes; of all of them -/
def SmB (y : SmV) (g : Nat) : Prop := (y.x.head ≠ [] ∧ y.hv.ownBlock = some g) ∨ (y.x.b ≠ [] ∧ y.bv.ownBlock = some g)
def SmsB (ys : List SmV) (g : Nat) : Prop := ∃ y ∈ ys, SmB y g
theorem SmsB.set {ys : List SmV} {k : Nat} {y' : SmV} {g : Nat} (h : SmsB (ys.set k y') g) : SmsB ys g ∨ SmB y' g := by
  obtain ⟨y, hy, h1⟩ := h
  rcases List.mem_or_eq_of_mem_set hy with hy | rfl
  · exact .inl ⟨y, hy, h1⟩
  · exact .inr h1
/-- what Next tells, and what it leaves -/
def hasF (room most : Int) (x : Sm) : Bool := frO x room most
def nextO (q : Sd) (room most : Int) : Bool := q.l.any (hasF room most)
def nextF20 (q : Sd) (room most : Int) : Fr := match q.l.find? (hasF room most) with | some x => frF x room most | none => Fr.zero
def nextS (q : Sd) (room most : Int) : Sd := match q.l.find? (hasF room most) with
  | some x => if (frF x room most).flags % 2 = 1 then dropS { q with l := q.l.set (q.l.findIdx (hasF room most)) (frX x room most) } x.id else { q with l := q.l.set (q.l.findIdx (hasF room most)) (frX x room most) }
  | none => q
theorem first_at {α : Type} {p : α → Bool} {l : List α} {k : Nat} {x : α} (h : (l.take k).any p = false) (hx : l[k]? = some x) (hp : p x = true) : l.find? p = some x ∧ l.findIdx p = k ∧ l.any p = true := by
  have hl : k < l.length := (List.getElem?_eq_some_iff.1 hx).1
  have hlt : ∀ j (hj : j < k), p (l[j]'(by omega)) = false := fun j hj => by
    by_cases e : p (l[j]'(by omega)) = true
    · have : (l.take k).any p = true := List.any_eq_true.2 ⟨_, by rw [List.mem_take_iff_getElem]; exact ⟨j, by omega, rfl⟩, e⟩
      rw [h] at this; cases this
    · simpa using e
  have hxe : l[k] = x := by rw [List.getElem?_eq_getElem hl] at hx; exact Option.some.inj hx
  have hi : l.findIdx p = k := (List.findIdx_eq hl).2 ⟨by rw [hxe]; exact hp, fun j hj => by have := hlt j hj; simpa using this⟩
  refine ⟨?_, hi, List.any_eq_true.2 ⟨x, List.mem_of_getElem? hx, hp⟩⟩
  rw [List.find?_eq_some_iff_getElem]
  exact ⟨hp, k, hl, hxe, fun j hj => by have := hlt j hj; simpa using this⟩
theorem next_none {q : Sd} {room most : Int} (h : q.l.any (hasF room most) = false) : nextO q room most = false ∧ nextF20 q room most = Fr.zero ∧ nextS q room most = q := by
  have hn : q.l.find? (hasF room most) = none := List.find?_eq_none.2 (fun x hx e => by
    have : q.l.any (hasF room most) = true := List.any_eq_true.2 ⟨x, hx, e⟩
    rw [h] at this; cases this)
  exact ⟨h, by unfold nextF20; rw [hn], by unfold nextS; rw [hn]⟩
theorem next_some {q : Sd} {room most : Int} {k : Nat} {x : Sm} (h : (q.l.take k).any (hasF room most) = false) (hx : q.l[k]? = some x) (hp : frO x room most = true) :
    nextO q room most = true ∧ nextF20 q room most = frF x room most ∧ nextS q room most = if (frF x room most).flags % 2 = 1 then dropS { q with l := q.l.set k (frX x room most) } x.id else { q with l := q.l.set k (frX x room most) } := by
  obtain ⟨h1, h2, h3⟩ := first_at h hx (show hasF room most x = true from hp)
  exact ⟨h3, by unfold nextF20; rw [h1], by unfold nextS; rw [h1, h2]⟩
end Go.Proofs.Ytnoegbdmjinfjaa

/-
  Layer 20's reference: the sender, Next.
-/
namespace Go.Proofs.Ytnoegbdmjinfjaa
set_option maxRecDepth 20000
open Go.RowKit

/-- a frame, its payload in blocks of a kind -/
def FrK (w : World) (v : Value) (F : Fr) (P : Nat → Prop) : Prop := ∃ pv, v = .agg #[.int .i64 F.kind, .int .i64 F.flags, .int .i64 F.stream, pv] ∧ Sl .u8 w pv F.pay ∧ (F.pay ≠ [] → ∀ g, pv.ownBlock = some g → P g)
theorem FrK.zero (w : World) (P : Nat → Prop) : FrK w (.agg #[.int .i64 0, .int .i64 0, .int .i64 0, .slice none 0 0]) Fr.zero P := ⟨_, rfl, Sl.nil _ _, fun h => absurd rfl h⟩
/-- how far Next has come: no stream so far had a frame -/
structure Nx20 (w W : World) (R : Nat) (lv : Value) (ys ys' : List SmV) (q : Sd) (room most : Int) (k : Nat) : Prop where
  o : RsObj W R lv ys' q
  b : ∀ g, SmsB ys' g → SmsB ys g
  t : Turn (fun g => lv.ownBlock = some g) w W
  z : W.heap[w.heap.size]? = some (.cells #[.int .i64 0, .int .i64 0, .int .i64 0, .slice none 0 0] 34 (0, 0))
  n : (q.l.take k).any (hasF room most) = false
def Nxt20 (w : World) (R : Nat) (lv : Value) (ys : List SmV) (q : Sd) (room most : Int) (e : Ending) (w' : World) : Prop :=
  ∃ fv lv' ys', e = .returned (.tuple #[fv, .bool (nextO q room most)]) ∧ FrK w' fv (nextF20 q room most) (SmsB ys) ∧ RsObj w' R lv' ys' (nextS q room most) ∧ Turn (fun g => g = R ∨ lv.ownBlock = some g) w w' ∧ (∀ g, lv'.ownBlock = some g → lv.ownBlock = some g ∨ w.heap.size ≤ g) ∧ ∀ g, SmsB ys' g → SmsB ys g
theorem Lows.lt {n R : Nat} {lv : Value} {ys : List SmV} (h : Lows n R lv ys) {g : Nat} (hg : SmsB ys g) : g < n := by
  obtain ⟨y, hy, ⟨h1, h2⟩ | ⟨h1, h2⟩⟩ := hg
  · exact (h.p y hy).1 h1 g h2
  · exact (h.p y hy).2 h1 g h2
theorem RsObj.sms {W : World} {R : Nat} {lv : Value} {ys : List SmV} {q : Sd} (h : RsObj W R lv ys q) {g : Nat} (hg : SmsB ys g) : g ≠ R ∧ lv.ownBlock ≠ some g := by
  obtain ⟨y, hy, ⟨h1, h2⟩ | ⟨h1, h2⟩⟩ := hg
  · exact (h.np y hy).1 h1 g h2
  · exact (h.np y hy).2 h1 g h2
theorem SmsB.kept {id : Int} {ys : List SmV} {g : Nat} (h : SmsB (keptV id ys) g) : SmsB ys g := by
  obtain ⟨y, hy, h1⟩ := h
  exact ⟨y, (List.mem_filter.1 hy).1, h1⟩
/-- a frame goes: the end of Next -/
theorem next_end {w W W9 : World} {R : Nat} {lv lv' pv : Value} {ys ys2 : List SmV} {q q2 : Sd} {room most : Int} {F : Fr} (hO : nextO q room most = true ∧ nextF20 q room most = F ∧ nextS q room most = q2) (hs : RsObj W R lv' ys2 q2) (hb : ∀ g, SmsB ys2 g → SmsB ys g)
    (ht : Turn (fun g => g = R ∨ lv.ownBlock = some g) w W) (hlv : ∀ g, lv'.ownBlock = some g → lv.ownBlock = some g ∨ w.heap.size < g) (hold : Lows w.heap.size R lv ys) (hpay : Sl .u8 W pv F.pay) (hpb : F.pay ≠ [] → ∀ g, pv.ownBlock = some g → SmsB ys g) (h9 : Turn (fun k => k = w.heap.size) W W9) :
    Nxt20 w R lv ys q room most (.returned (.tuple #[.agg #[.int .i64 F.kind, .int .i64 F.flags, .int .i64 F.stream, pv], .bool true])) W9 := by
  unfold Nxt20
  rw [hO.1, hO.2.1, hO.2.2]
  refine ⟨_, lv', ys2, rfl, ⟨pv, rfl, hpay.turn0 h9 (fun h1 g hg e => by have e' : g = w.heap.size := e; have := hold.lt (hpb h1 g hg); omega), hpb⟩, hs.turnS h9 (fun e => by have := hold.r; omega) (fun g hg e => ?_) (fun y hy => ⟨fun h1 g hg e => ?_, fun h1 g hg e => ?_⟩), ht.trans' h9 (fun k hk e => by have e' : k = w.heap.size := e; omega), fun g hg => (hlv g hg).imp_right Nat.le_of_lt, hb⟩
  · have e' : g = w.heap.size := e
    rcases hlv g hg with h1 | h1
    · have := hold.l g h1; omega
    · omega
  · have e' : g = w.heap.size := e
    have := hold.lt (hb g ⟨y, hy, .inl ⟨h1, hg⟩⟩); omega
  · have e' : g = w.heap.size := e
    have := hold.lt (hb g ⟨y, hy, .inr ⟨h1, hg⟩⟩); omega
set_option maxHeartbeats 8000000 in
theorem rnext20_any (R : Nat) (lv : Value) (ys : List SmV) (q : Sd) (room most : Int) (w : World) (h : RsObj w R lv ys q) (hF : (Lit.int .i64 room).wf = true ∧ (Lit.int .i64 most).wf = true) (hq : Small20 q) :
    Calls Try.prog 35 #[.pointer (some ⟨R, 0, none⟩), .int .i64 room, .int .i64 most] w fun e w' => Nxt20 w R lv ys q room most e w' := by
  obtain ⟨al, cl, elv, hc1, hc2⟩ := h.l.1.shape
  unfold maxLen at hc2
  obtain ⟨N, hN⟩ : ∃ N, ys.length = N := ⟨_, rfl⟩
  rw [hN] at elv hc1
  subst elv
  obtain ⟨W1, hW1⟩ : ∃ W1, w.alloc (.cells #[.int .i64 0, .int .i64 0, .int .i64 0, .slice none 0 0] 34) = W1 := ⟨_, rfl⟩
  have hb1 : Below w.heap.size w W1 := by rw [← hW1]; exact (Below.refl _ _).alloc (Nat.le_refl _) _
  have HW1 := Lib.hid (show Nx20 w W1 R (.slice al N cl) ys ys q room most 0 from ⟨h.below hb1, fun _ e => e, Turn.of_below hb1, by rw [← hW1]; exact heap_alloc_new _ _, by simp⟩)
  have HN := Lib.hid (show q.l.length = N by rw [h.e, List.length_map, hN])
  have HR := Lib.hid h
  have HQ := Lib.hid (And.intro hF hq)
  have f1 := HW1.out.o.blk.cells.2.1
  have f2 := HW1.out.o.blk.lt
  have hlw := h.blk.lt
  have HLv := Lib.hid (show (∀ g, (Value.slice al N cl).ownBlock = some g → g < w.heap.size) ∧ R < w.heap.size from ⟨fun g hg => (h.nl g hg).2, h.blk.lt⟩)
  clear h hN hF hq hb1 hlw
  go_enter Try.func35, Try.ntmps35
  go_wp2_with fail
  clear hW1
  go_loopg [8, 9, 10] N (fun q' s8 s9 s10 wr => ∃ k : Nat, k + q' = N ∧ s8 = .int .i64 k ∧ Hid (∃ ys', Nx20 w wr R (.slice al N cl) ys ys' q room most k))
  case atStart => exact ⟨0, by omega, rfl, Lib.hid ⟨ys, HW1.out⟩⟩
  case round =>
    obtain ⟨k, hkq, rfl, HX0⟩ := hrel
    obtain ⟨ys', hX⟩ := HX0.out
    have HX := Lib.hid hX
    have HKQ := Lib.hid hkq
    have hk : k ≤ N := by omega
    clear hkq f1 f2 hX HX0
    have f1 := HX.out.o.blk.cells.2.1
    have f2 := HX.out.o.blk.lt
    have HN' := Lib.hid (show ys'.length = N by rw [← HN.out, HX.out.o.e, List.length_map])
    by_cases hlt : k < N
    · obtain ⟨y, hy⟩ : ∃ y, ys'[k]? = some y := ⟨ys'[k]'(by rw [HN'.out]; exact hlt), List.getElem?_eq_getElem (by rw [HN'.out]; exact hlt)⟩
      have HY := Lib.hid (And.intro hy (show q.l[k]? = some y.x by rw [HX.out.o.e, List.getElem?_map, hy]; rfl))
      have HLt := Lib.hid hlt
      clear hy
      go_wp2_with fail
      refine (rframe20_any R _ ys' q k y room most wr HX.out.o HY.out.1 HQ.out.1 HQ.out.2).mono ?_
      rintro e w1 ⟨pv, hv, bv, rfl, hpv, hpb, ho1, ht1, hh1, hb1⟩
      have HF1 := Lib.hid (And.intro hpb (And.intro ho1 (And.intro ht1 (And.intro hh1 hb1))))
      have hfs := frF_stream y.x room most
      have hff := frF_flags y.x room most
      obtain ⟨F, hFe⟩ : ∃ F, frF y.x room most = F := ⟨_, rfl⟩
      rw [hFe] at hpv hfs hff HF1 ⊢
      have HFe := Lib.hid hFe
      obtain ⟨fk, fl, fs, fp⟩ := F
      dsimp only at hpv hfs hff HF1 ⊢
      subst hfs
      obtain ⟨ap, cp, rfl, _⟩ := (show _ from hpv)
      have HPv := Lib.hid hpv
      clear hpv hpb ho1 ht1 hh1 hb1 hFe
      obtain ⟨W2, hW2⟩ : ∃ W2, w1.alloc (.cells #[.int .i64 fk, .int .i64 fl, .int .i64 y.x.id, .slice ap fp.length cp] 34) = W2 := ⟨_, rfl⟩
      have HB2 := Lib.hid (show Below w1.heap.size w1 W2 ∧ W2.heap[w1.heap.size]? = some (.cells #[.int .i64 fk, .int .i64 fl, .int .i64 y.x.id, .slice ap fp.length cp] 34 (0, 0)) from by rw [← hW2]; exact ⟨(Below.refl _ _).alloc (Nat.le_refl _) _, heap_alloc_new _ _⟩)
      have HS := Lib.hid (show w.heap.size < w1.heap.size from Nat.lt_of_lt_of_le (Array.getElem?_eq_some_iff.1 HX.out.z).1 HF1.out.2.2.1.size)
      have HZ2 := Lib.hid (show W2.heap[w.heap.size]? = some (.cells #[.int .i64 0, .int .i64 0, .int .i64 0, .slice none 0 0] 34 (0, 0)) from
        (HB2.out.1.block _ HS.out).trans (HF1.out.2.2.1.obj HX.out.z (fun e => by have := HLv.out.1 _ e; omega)))
      have y0 : W2.cell? ⟨w1.heap.size, 0, none⟩ = some (.int .i64 fk) := blk_cell (j := 0) HB2.out.2 rfl
      have y1 : W2.cell? ⟨w1.heap.size, 1, none⟩ = some (.int .i64 fl) := blk_cell (j := 1) HB2.out.2 rfl
      have y2 : W2.cell? ⟨w1.heap.size, 2, none⟩ = some (.int .i64 y.x.id) := blk_cell (j := 2) HB2.out.2 rfl
      have y3 : W2.cell? ⟨w1.heap.size, 3, none⟩ = some (.slice ap fp.length cp) := blk_cell (j := 3) HB2.out.2 rfl
      have y4 := (Array.getElem?_eq_some_iff.1 HB2.out.2).1
      have HT2 := Lib.hid (show Turn (fun g => (Value.slice al N cl).ownBlock = some g) w W2 from HX.out.t.trans (HF1.out.2.2.1.trans (Turn.of_below HB2.out.1)))
      have HSub := Lib.hid (show ∀ g, SmsB (ys'.set k ⟨frX y.x room most, hv, bv⟩) g → SmsB ys g from fun g hg => by
        rcases hg.set with hg | hg
        · exact HX.out.b g hg
        · refine HX.out.b g ⟨y, List.mem_of_getElem? HY.out.1, ?_⟩
          rcases hg with ⟨h1, h2⟩ | ⟨h1, h2⟩
          · exact .inl (HF1.out.2.2.2.1 h1 g h2)
          · exact .inr (HF1.out.2.2.2.2 h1 g h2))
      by_cases ho : frO y.x room most = true
      · have HO := Lib.hid (next_some HX.out.n HY.out.2 ho)
        rw [HFe.out] at HO
        rw [ho]
        have HPd := Lib.hid (show fp ≠ [] → ∀ g, (Value.slice ap fp.length cp).ownBlock = some g → SmsB ys g from fun h1 g hg => HX.out.b g ⟨y, List.mem_of_getElem? HY.out.1, HF1.out.1 h1 g hg⟩)
        have HEv := Lib.hid (show fl % 2 ≠ 1 → ∀ W9, Turn (fun k => k = w.heap.size) W2 W9 → Nxt20 w R (.slice al N cl) ys q room most (.returned (.tuple #[.agg #[.int .i64 fk, .int .i64 fl, .int .i64 y.x.id, .slice ap fp.length cp], .bool true])) W9 from fun he W9 h9 => by
          have hO := HO.out
          rw [if_neg he] at hO
          exact next_end (F := ⟨fk, fl, y.x.id, fp⟩) hO (HF1.out.2.1.below HB2.out.1) HSub.out (HT2.out.mono (fun _ _ e => .inr e)) (fun g hg => .inl hg) HR.out.lows (HPv.out.below HB2.out.1) HPd.out h9)
        have HOd := Lib.hid (show fl % 2 = 1 → ∀ W3 W9 lv', RsObj W3 R lv' (keptV y.x.id (ys'.set k ⟨frX y.x room most, hv, bv⟩)) (dropS { q with l := q.l.set k (frX y.x room most) } y.x.id) → Turn (fun g => g = R) W2 W3 → (∀ g, lv'.ownBlock = some g → W2.heap.size ≤ g) → Turn (fun k => k = w.heap.size) W3 W9 → Nxt20 w R (.slice al N cl) ys q room most (.returned (.tuple #[.agg #[.int .i64 fk, .int .i64 fl, .int .i64 y.x.id, .slice ap fp.length cp], .bool true])) W9 from fun he W3 W9 lv' h3 t3 f3 h9 => by
          have hO := HO.out
          rw [if_pos he] at hO
          have hsz := HB2.out.1.size
          have hs := HS.out
          exact next_end (F := ⟨fk, fl, y.x.id, fp⟩) hO h3 (fun g hg => HSub.out g hg.kept) ((HT2.out.mono (fun _ _ e => .inr e)).trans (t3.mono (fun _ _ e => .inl e))) (fun g hg => .inr (by have := f3 g hg; omega)) HR.out.lows ((HPv.out.below HB2.out.1).turn0 t3 (fun h1 g hg => (HR.out.sms (HPd.out h1 g hg)).1)) HPd.out h9)
        have HG9 := Lib.hid (show ∀ W3, Turn (fun g => g = R) W2 W3 → W3.heap[w.heap.size]? = some (.cells #[.int .i64 0, .int .i64 0, .int .i64 0, .slice none 0 0] 34 (0, 0)) ∧ W3.heap[w1.heap.size]? = some (.cells #[.int .i64 fk, .int .i64 fl, .int .i64 y.x.id, .slice ap fp.length cp] 34 (0, 0)) from fun W3 t3 =>
          ⟨t3.obj HZ2.out (fun e => by have := HLv.out.2; omega), t3.obj HB2.out.2 (fun e => by have := HLv.out.2; have := HS.out; omega)⟩)
        have HLen := Lib.hid (show (ys'.set k ⟨frX y.x room most, hv, bv⟩).length ≤ 100000 from by rw [List.length_set, HN'.out, ← HN.out]; have := HQ.out.2.1; omega)
        have HAny := Lib.hid (show ∃ k0 : Nat, at20 (q.l.set k (frX y.x room most)) y.x.id = k0 from by
          have ha : (q.l.set k (frX y.x room most)).any (hasId y.x.id) = true := List.any_eq_true.2 ⟨frX y.x room most, List.mem_of_getElem? (List.getElem?_set_self (List.getElem?_eq_some_iff.1 HY.out.2).1), by simp [hasId, frX_id]⟩
          obtain ⟨k0, _, h1, _⟩ := at20_at ha
          exact ⟨k0, h1⟩)
        have HRk := Lib.hid (show RsObj W2 R (.slice al N cl) (ys'.set k ⟨frX y.x room most, hv, bv⟩) { q with l := q.l.set k (frX y.x room most) } from HF1.out.2.1.below HB2.out.1)
        clear ho
        have HZ := Lib.hid HZ2.out
        rcases hff with rfl | rfl | rfl | rfl
        · go_wp2_with (refine store_fr13 rfl (.tmp 6) (.tmp 37) rfl w.heap.size ⟨fk, 0, y.x.id, fp⟩ ap fp.length cp _ rfl rfl HZ.out rfl ?_)
          have HZ9 := Lib.hid (setRow_heap _ _ _ #[.int .i64 fk, .int .i64 0, .int .i64 y.x.id, .slice ap fp.length cp] _ _ HZ.out)
          have HT9 := Lib.hid (show Turn (fun k => k = w.heap.size) W2 (W2.setRow w.heap.size #[.int .i64 fk, .int .i64 0, .int .i64 y.x.id, .slice ap fp.length cp]) from Turn.of_grown (setRow_grown _ _ _))
          generalize W2.setRow w.heap.size #[.int .i64 fk, .int .i64 0, .int .i64 y.x.id, .slice ap fp.length cp] = W9 at HZ9 HT9 ⊢
          refine bodyPost_ret (results_row_tmp1 rfl _ _ w.heap.size 34 #[.int .i64 fk, .int .i64 0, .int .i64 y.x.id, .slice ap fp.length cp] (0, 0) _ rfl HZ9.out Try.underlying34 rfl (by kernel_rfl)) rfl ?_
          exact HEv.out (by decide) W9 HT9.out
        · go_wp2_with fail
          obtain ⟨k0, hk0⟩ := HAny.out
          refine (rdrop20_yes R _ _ _ y.x.id k0 W2 HRk.out hk0 HLen.out).mono ?_
          rintro e W3 ⟨rfl, lv', h3, t3, f3⟩
          have HD := Lib.hid (And.intro h3 (And.intro t3 f3))
          have HZ3 := Lib.hid (HG9.out W3 t3).1
          have HF3 := Lib.hid (HG9.out W3 t3).2
          clear y0 y1 y2 y3 y4 h3 t3 f3 hk0 hW2
          have y0 : W3.cell? ⟨w1.heap.size, 0, none⟩ = some (.int .i64 fk) := blk_cell (j := 0) HF3.out rfl
          have y1 : W3.cell? ⟨w1.heap.size, 1, none⟩ = some (.int .i64 1) := blk_cell (j := 1) HF3.out rfl
          have y2 : W3.cell? ⟨w1.heap.size, 2, none⟩ = some (.int .i64 y.x.id) := blk_cell (j := 2) HF3.out rfl
          have y3 : W3.cell? ⟨w1.heap.size, 3, none⟩ = some (.slice ap fp.length cp) := blk_cell (j := 3) HF3.out rfl
          have y4 := (Array.getElem?_eq_some_iff.1 HF3.out).1
          go_wp2_with (refine store_fr13 rfl (.tmp 6) (.tmp 37) rfl w.heap.size ⟨fk, 1, y.x.id, fp⟩ ap fp.length cp _ rfl rfl HZ3.out rfl ?_)
          have HZ9 := Lib.hid (setRow_heap _ _ _ #[.int .i64 fk, .int .i64 1, .int .i64 y.x.id, .slice ap fp.length cp] _ _ HZ3.out)
          have HT9 := Lib.hid (show Turn (fun k => k = w.heap.size) W3 (W3.setRow w.heap.size #[.int .i64 fk, .int .i64 1, .int .i64 y.x.id, .slice ap fp.length cp]) from Turn.of_grown (setRow_grown _ _ _))
          generalize W3.setRow w.heap.size #[.int .i64 fk, .int .i64 1, .int .i64 y.x.id, .slice ap fp.length cp] = W9 at HZ9 HT9 ⊢
          refine bodyPost_ret (results_row_tmp1 rfl _ _ w.heap.size 34 #[.int .i64 fk, .int .i64 1, .int .i64 y.x.id, .slice ap fp.length cp] (0, 0) _ rfl HZ9.out Try.underlying34 rfl (by kernel_rfl)) rfl ?_
          exact HOd.out (by decide) W3 W9 lv' HD.out.1 HD.out.2.1 HD.out.2.2 HT9.out
        · go_wp2_with (refine store_fr13 rfl (.tmp 6) (.tmp 37) rfl w.heap.size ⟨fk, 4, y.x.id, fp⟩ ap fp.length cp _ rfl rfl HZ.out rfl ?_)
          have HZ9 := Lib.hid (setRow_heap _ _ _ #[.int .i64 fk, .int .i64 4, .int .i64 y.x.id, .slice ap fp.length cp] _ _ HZ.out)
          have HT9 := Lib.hid (show Turn (fun k => k = w.heap.size) W2 (W2.setRow w.heap.size #[.int .i64 fk, .int .i64 4, .int .i64 y.x.id, .slice ap fp.length cp]) from Turn.of_grown (setRow_grown _ _ _))
          generalize W2.setRow w.heap.size #[.int .i64 fk, .int .i64 4, .int .i64 y.x.id, .slice ap fp.length cp] = W9 at HZ9 HT9 ⊢
          refine bodyPost_ret (results_row_tmp1 rfl _ _ w.heap.size 34 #[.int .i64 fk, .int .i64 4, .int .i64 y.x.id, .slice ap fp.length cp] (0, 0) _ rfl HZ9.out Try.underlying34 rfl (by kernel_rfl)) rfl ?_
          exact HEv.out (by decide) W9 HT9.out
        · go_wp2_with fail
          obtain ⟨k0, hk0⟩ := HAny.out
          refine (rdrop20_yes R _ _ _ y.x.id k0 W2 HRk.out hk0 HLen.out).mono ?_
          rintro e W3 ⟨rfl, lv', h3, t3, f3⟩
          have HD := Lib.hid (And.intro h3 (And.intro t3 f3))
          have HZ3 := Lib.hid (HG9.out W3 t3).1
          have HF3 := Lib.hid (HG9.out W3 t3).2
          clear y0 y1 y2 y3 y4 h3 t3 f3 hk0 hW2
          have y0 : W3.cell? ⟨w1.heap.size, 0, none⟩ = some (.int .i64 fk) := blk_cell (j := 0) HF3.out rfl
          have y1 : W3.cell? ⟨w1.heap.size, 1, none⟩ = some (.int .i64 5) := blk_cell (j := 1) HF3.out rfl
          have y2 : W3.cell? ⟨w1.heap.size, 2, none⟩ = some (.int .i64 y.x.id) := blk_cell (j := 2) HF3.out rfl
          have y3 : W3.cell? ⟨w1.heap.size, 3, none⟩ = some (.slice ap fp.length cp) := blk_cell (j := 3) HF3.out rfl
          have y4 := (Array.getElem?_eq_some_iff.1 HF3.out).1
          go_wp2_with (refine store_fr13 rfl (.tmp 6) (.tmp 37) rfl w.heap.size ⟨fk, 5, y.x.id, fp⟩ ap fp.length cp _ rfl rfl HZ3.out rfl ?_)
          have HZ9 := Lib.hid (setRow_heap _ _ _ #[.int .i64 fk, .int .i64 5, .int .i64 y.x.id, .slice ap fp.length cp] _ _ HZ3.out)
          have HT9 := Lib.hid (show Turn (fun k => k = w.heap.size) W3 (W3.setRow w.heap.size #[.int .i64 fk, .int .i64 5, .int .i64 y.x.id, .slice ap fp.length cp]) from Turn.of_grown (setRow_grown _ _ _))
          generalize W3.setRow w.heap.size #[.int .i64 fk, .int .i64 5, .int .i64 y.x.id, .slice ap fp.length cp] = W9 at HZ9 HT9 ⊢
          refine bodyPost_ret (results_row_tmp1 rfl _ _ w.heap.size 34 #[.int .i64 fk, .int .i64 5, .int .i64 y.x.id, .slice ap fp.length cp] (0, 0) _ rfl HZ9.out Try.underlying34 rfl (by kernel_rfl)) rfl ?_
          exact HOd.out (by decide) W3 W9 lv' HD.out.1 HD.out.2.1 HD.out.2.2 HT9.out
      · have ho : frO y.x room most = false := by simpa using ho
        rw [ho]
        have HNx := Lib.hid (show Nx20 w W2 R (.slice al N cl) ys (ys'.set k ⟨frX y.x room most, hv, bv⟩) q room most (k + 1) from by
          have h1 := HF1.out.2.1
          rw [frO_no ho, set_same20 HY.out.2] at h1
          rw [frO_no ho]
          refine ⟨h1.below HB2.out.1, ?_, HT2.out, HZ2.out, ?_⟩
          · have h2 := HSub.out
            rw [frO_no ho] at h2
            exact h2
          · rw [List.take_add_one, List.any_append, HX.out.n, HY.out.2]
            simp [hasF, ho])
        clear ho
        go_wp2_with fail
        go_roundg (N - (k + 1))
        case measure => have := HKQ.out; have := HLt.out; omega
        case rel => exact ⟨k + 1, by have := HLt.out; omega, by go_num, Lib.hid ⟨_, HNx.out⟩⟩
    · obtain rfl : k = N := by omega
      have HE := Lib.hid (show nextO q room most = false ∧ nextF20 q room most = Fr.zero ∧ nextS q room most = q from next_none (by
        have h1 := HX.out.n
        rwa [← HN.out, List.take_length] at h1))
      have HZ := Lib.hid HX.out.z
      clear hlt hk
      go_wp2_with (refine store_fr13 rfl (.tmp 6) (.tmp 38) rfl w.heap.size Fr.zero none 0 0 _ rfl rfl HZ.out rfl ?_)
      simp only [Fr.zero]
      have HZ9 := Lib.hid (setRow_heap _ _ _ #[.int .i64 0, .int .i64 0, .int .i64 0, .slice none 0 0] _ _ HZ.out)
      have HT9 := Lib.hid (show Turn (fun k => k = w.heap.size) wr (wr.setRow w.heap.size #[.int .i64 0, .int .i64 0, .int .i64 0, .slice none 0 0]) from Turn.of_grown (setRow_grown _ _ _))
      generalize wr.setRow w.heap.size #[.int .i64 0, .int .i64 0, .int .i64 0, .slice none 0 0] = W9 at HZ9 HT9 ⊢
      refine bodyPost_ret (results_row_tmp1 rfl _ _ w.heap.size 34 #[.int .i64 0, .int .i64 0, .int .i64 0, .slice none 0 0] (0, 0) _ rfl HZ9.out Try.underlying34 rfl (by kernel_rfl)) rfl ?_
      unfold Nxt20
      rw [HE.out.1, HE.out.2.1, HE.out.2.2]
      refine ⟨_, _, ys', rfl, FrK.zero _ _, HX.out.o.turnS HT9.out (fun e => by have := HLv.out.2; omega) (fun g hg e => by have := HLv.out.1 g hg; omega) (fun y hy => ?_), (HX.out.t.mono (fun _ _ e => .inr e)).trans' HT9.out (fun k hk e => by have e' : k = w.heap.size := e; omega), fun g hg => .inl hg, HX.out.b⟩
      have hlow := HR.out.lows
      have hb := HX.out.b
      refine ⟨fun h1 g hg e => ?_, fun h1 g hg e => ?_⟩
      · obtain ⟨y0, hy0, h2⟩ := hb g ⟨y, hy, .inl ⟨h1, hg⟩⟩
        rcases h2 with ⟨h2, h3⟩ | ⟨h2, h3⟩
        · have := (hlow.p y0 hy0).1 h2 g h3; omega
        · have := (hlow.p y0 hy0).2 h2 g h3; omega
      · obtain ⟨y0, hy0, h2⟩ := hb g ⟨y, hy, .inr ⟨h1, hg⟩⟩
        rcases h2 with ⟨h2, h3⟩ | ⟨h2, h3⟩
        · have := (hlow.p y0 hy0).1 h2 g h3; omega
        · have := (hlow.p y0 hy0).2 h2 g h3; omega
end Go.Proofs.Ytnoegbdmjinfjaa

/-
  Layer 20's reference: the sender, Open (written by wip/tools/gen20o.py).
-/
namespace Go.Proofs.Ytnoegbdmjinfjaa
set_option maxRecDepth 20000
open Go.RowKit

def insS (x : Sm) : List Sm → List Sm
  | [] => [x]
  | y :: r => if x.id < y.id then x :: y :: r else y :: insS x r
def insV (v : SmV) : List SmV → List SmV
  | [] => [v]
  | y :: r => if v.x.id < y.x.id then v :: y :: r else y :: insV v r
theorem insV_x (v : SmV) : ∀ l : List SmV, (insV v l).map (·.x) = insS v.x (l.map (·.x))
  | [] => rfl
  | y :: r => by
    simp only [insV, List.map_cons, insS]
    by_cases h : v.x.id < y.x.id
    · rw [if_pos h, if_pos h]; rfl
    · rw [if_neg h, if_neg h, List.map_cons, insV_x v r]
theorem insV_mem {v y : SmV} : ∀ {l : List SmV}, y ∈ insV v l → y = v ∨ y ∈ l
  | [], h => .inl (by simpa [insV] using h)
  | z :: r, h => by
    unfold insV at h
    split at h
    · rcases List.mem_cons.1 h with rfl | h
      · exact .inl rfl
      · exact .inr h
    · rcases List.mem_cons.1 h with rfl | h
      · exact .inr List.mem_cons_self
      · exact (insV_mem h).imp_right (List.mem_cons_of_mem _)
theorem insV_low {v : SmV} : ∀ {a : List SmV} (r : List SmV), (∀ y ∈ a, ¬ v.x.id < y.x.id) → insV v (a ++ r) = a ++ insV v r
  | [], _, _ => rfl
  | y :: a, r, h => by
    simp only [List.cons_append, insV]
    rw [if_neg (h y List.mem_cons_self), insV_low r (fun z hz => h z (List.mem_cons_of_mem _ hz))]
theorem insV_high {v : SmV} : ∀ {a : List SmV} (r : List SmV), (∃ y ∈ a, v.x.id < y.x.id) → insV v (a ++ r) = insV v a ++ r
  | [], _, h => by obtain ⟨y, hy, _⟩ := h; cases hy
  | y :: a, r, h => by
    simp only [List.cons_append, insV]
    by_cases e : v.x.id < y.x.id
    · rw [if_pos e, if_pos e]; rfl
    · rw [if_neg e, if_neg e, insV_high r (by
        obtain ⟨z, hz, hlt⟩ := h
        rcases List.mem_cons.1 hz with rfl | hz
        · exact absurd hlt e
        · exact ⟨z, hz, hlt⟩)]
      rfl
theorem insV_len (v : SmV) : ∀ l : List SmV, (insV v l).length = l.length + 1
  | [] => rfl
  | y :: r => by
    unfold insV
    split
    · rfl
    · rw [List.length_cons, List.length_cons, insV_len v r]
def open20 (q : Sd) (id win : Int) : Sd := { q with l := insS ⟨id, win, [], false, false, false, []⟩ q.l }
def newV (id win : Int) : SmV := ⟨⟨id, win, [], false, false, false, []⟩, .slice none 0 0, .slice none 0 0⟩
/-- what the loop has made of the first streams -/
def outV (id win : Int) (d : Bool) (l : List SmV) : List SmV := if d = true then insV (newV id win) l else l
structure Op20 (w W : World) (ys : List SmV) (id win : Int) (k : Nat) (ov : Value) (d : Bool) : Prop where
  b : Below w.heap.size w W
  r : W.ownsRow w.heap.size 72 7 ov (outV id win d (ys.take k)).length (flatC smC (outV id win d (ys.take k)))
  no : d = false → ∀ y ∈ ys.take k, ¬ id < y.x.id
  yes : d = true → ∃ y ∈ ys.take k, id < y.x.id
theorem Op20.len {w W : World} {ys : List SmV} {id win : Int} {k : Nat} {ov : Value} {d : Bool} (_ : Op20 w W ys id win k ov d) : (outV id win d (ys.take k)).length ≤ k + 1 := by
  have h1 : (ys.take k).length ≤ k := by rw [List.length_take]; omega
  unfold outV
  split
  · rw [insV_len]; omega
  · omega
theorem out_low {ys : List SmV} {id win : Int} {k : Nat} {y : SmV} (hy : ys[k]? = some y) (_ : ∀ y ∈ ys.take k, ¬ id < y.x.id) (_ : ¬ id < y.x.id) : outV id win false (ys.take (k + 1)) = outV id win false (ys.take k) ++ [y] := by
  unfold outV
  rw [if_neg (by decide), if_neg (by decide), List.take_add_one, hy]; rfl
theorem out_here {ys : List SmV} {id win : Int} {k : Nat} {y : SmV} (hy : ys[k]? = some y) (hn : ∀ y ∈ ys.take k, ¬ id < y.x.id) (hlt : id < y.x.id) : outV id win true (ys.take (k + 1)) = (outV id win false (ys.take k) ++ [newV id win]) ++ [y] := by
  unfold outV
  rw [if_pos rfl, if_neg (by decide), List.take_add_one, hy, insV_low _ hn, List.append_assoc]
  simp only [Option.toList, insV]
  rw [if_pos (show (newV id win).x.id < y.x.id from hlt)]
  rfl
theorem out_high {ys : List SmV} {id win : Int} {k : Nat} {y : SmV} (hy : ys[k]? = some y) (hx : ∃ y ∈ ys.take k, id < y.x.id) : outV id win true (ys.take (k + 1)) = outV id win true (ys.take k) ++ [y] := by
  unfold outV
  rw [if_pos rfl, if_pos rfl, List.take_add_one, hy, insV_high _ hx]; rfl
theorem ropen20_arg (R : Nat) (lv : Value) (ys : List SmV) (q : Sd) (id win : Int) (w : World) (_ : RsObj w R lv ys q) (hb : id < 1 ∨ 2147483647 < id ∨ winB win = false) :
    Calls Try.prog 29 #[.pointer (some ⟨R, 0, none⟩), .int .i64 id, .int .i64 win] w fun e w' => e = .returned (.int .i64 1) ∧ w' = w := by
  by_cases h1 : id < 1
  · have d1 : decide (id < 1) = true := decide_eq_true h1
    clear hb h1
    go_enter Try.func29, Try.ntmps29
    go_wp2_with fail
    refine (refWin_any _ _).mono ?_
    rintro e w1 ⟨rfl, e0⟩
    have e1 := e0.symm
    clear e0
    subst e1
    go_wp2_with fail
    go_ret
    exact ⟨rfl, rfl⟩
  · have d1 : decide (id < 1) = false := decide_eq_false h1
    by_cases h2 : 2147483647 < id
    · have d2 : decide (2147483647 < id) = true := decide_eq_true h2
      clear hb h1 h2
      go_enter Try.func29, Try.ntmps29
      go_wp2_with fail
      refine (refWin_any _ _).mono ?_
      rintro e w1 ⟨rfl, e0⟩
      have e1 := e0.symm
      clear e0
      subst e1
      go_wp2_with fail
      go_ret
      exact ⟨rfl, rfl⟩
    · have d2 : decide (2147483647 < id) = false := decide_eq_false h2
      have HW := Lib.hid (show winB win = false from (hb.resolve_left h1).resolve_left h2)
      clear hb h1 h2
      go_enter Try.func29, Try.ntmps29
      go_wp2_with fail
      refine (refWin_any _ _).mono ?_
      rintro e w1 ⟨rfl, e0⟩
      have e1 := e0.symm
      clear e0
      subst e1
      rw [HW.out]
      go_wp2_with fail
      go_ret
      exact ⟨rfl, rfl⟩
theorem ropen20_is (R : Nat) (lv : Value) (ys : List SmV) (q : Sd) (id win : Int) (w : World) (h : RsObj w R lv ys q) (hb : 1 ≤ id ∧ id ≤ 2147483647 ∧ winB win = true) (hi : q.l.any (hasId id) = true) :
    Calls Try.prog 29 #[.pointer (some ⟨R, 0, none⟩), .int .i64 id, .int .i64 win] w fun e w' => e = .returned (.int .i64 6) ∧ w' = w := by
  have d1 : decide (id < 1) = false := decide_eq_false (by omega)
  have d2 : decide (2147483647 < id) = false := decide_eq_false (by omega)
  have HW := Lib.hid hb.2.2
  obtain ⟨k0, _, hk0, _⟩ := at20_at hi
  have HAt := Lib.hid hk0
  have dk : decide ((0 : Int) ≤ (k0 : Int)) = true := decide_eq_true (by omega)
  have HR := Lib.hid h
  clear hb hi hk0 h
  go_enter Try.func29, Try.ntmps29
  go_wp2_with fail
  refine (refWin_any _ _).mono ?_
  rintro e w1 ⟨rfl, e0⟩
  have e1 := e0.symm
  clear e0
  subst e1
  rw [HW.out]
  go_wp2_with fail
  refine (rat20_any R _ ys q id w HR.out).mono ?_
  rintro e w1 ⟨rfl, e0⟩
  have e1 := e0.symm
  clear e0
  subst e1
  rw [HAt.out]
  go_wp2_with fail
  go_ret
  exact ⟨rfl, rfl⟩
set_option maxHeartbeats 8000000 in
theorem ropen20_yes (R : Nat) (lv : Value) (ys : List SmV) (q : Sd) (id win : Int) (w : World) (h : RsObj w R lv ys q) (hb : 1 ≤ id ∧ id ≤ 2147483647 ∧ winB win = true) (hi : q.l.any (hasId id) = false) (hlen : ys.length ≤ 100000) :
    Calls Try.prog 29 #[.pointer (some ⟨R, 0, none⟩), .int .i64 id, .int .i64 win] w fun e w' => e = .returned (.int .i64 0) ∧ ∃ lv', RsObj w' R lv' (insV (newV id win) ys) (open20 q id win) ∧ Turn (fun g => g = R) w w' ∧ ∀ g, lv'.ownBlock = some g → w.heap.size ≤ g := by
  obtain ⟨al, cl, elv, hc1, hc2⟩ := h.l.1.shape
  unfold maxLen at hc2
  obtain ⟨N, hN⟩ : ∃ N, ys.length = N := ⟨_, rfl⟩
  rw [hN] at elv hc1 hlen
  subst elv
  have HN := Lib.hid (show ys.length = N ∧ q.l.length = N from ⟨hN, by rw [h.e, List.length_map, hN]⟩)
  have HR := Lib.hid h
  have HAt := Lib.hid (at20_no hi)
  have HW := Lib.hid hb.2.2
  have d1 : decide (id < 1) = false := decide_eq_false (by omega)
  have d2 : decide (2147483647 < id) = false := decide_eq_false (by omega)
  obtain ⟨i0, hi0, hz0, hz1, hz2⟩ := info_parts Try.infoSm20
  have HI := Lib.hid (And.intro hi0 (And.intro hz0 (And.intro hz1 hz2)))
  clear hi0 hz0 hz1 hz2 hN h hb hi
  obtain ⟨f0, f1, f2⟩ := HR.out.blk.cells
  go_enter Try.func29, Try.ntmps29
  go_wp2_with fail
  refine (refWin_any _ _).mono ?_
  rintro e w1 ⟨rfl, e0⟩
  have e1 := e0.symm
  clear e0
  subst e1
  rw [HW.out]
  go_wp2_with fail
  refine (rat20_any R _ ys q id w HR.out).mono ?_
  rintro e w1 ⟨rfl, e0⟩
  have e1 := e0.symm
  clear e0
  subst e1
  rw [HAt.out]
  go_wp2_with fail
  go_loopg [8, 9, 10] N (fun q' s8 s9 s10 wr => ∃ k : Nat, k + q' = N ∧ s10 = .int .i64 k ∧ ∃ ov d, s8 = ov ∧ s9 = .bool d ∧ Hid (Op20 w wr ys id win k ov d))
  case atStart => exact ⟨0, by omega, rfl, _, false, rfl, rfl, Lib.hid ⟨Below.refl _ _, RowC.nil _ _ _, fun _ y hy => (by cases hy), fun e => (by cases e)⟩⟩
  case round =>
    obtain ⟨k, hkq, rfl, ov, d, rfl, rfl, HP⟩ := hrel
    have HKQ := Lib.hid hkq
    have hk : k ≤ N := by omega
    clear hkq f0 f1 f2
    have HRr := Lib.hid (HR.out.below HP.out.b)
    obtain ⟨f0, f1, f2⟩ := HRr.out.blk.cells
    obtain ⟨ao, co, rfl, _⟩ := owned_shape HP.out.r
    have hkl := HP.out.len
    obtain ⟨L, hL⟩ : ∃ L, (outV id win d (ys.take k)).length = L := ⟨_, rfl⟩
    rw [hL] at hkl ⊢
    have HL := Lib.hid hL
    have HPr := Lib.hid (show wr.ownsRow w.heap.size 72 7 (.slice ao L co) L (flatC smC (outV id win d (ys.take k))) from by
      have h1 := HP.out.r
      rw [hL] at h1
      exact h1)
    clear hL
    by_cases hlt : k < N
    · obtain ⟨y, hy⟩ : ∃ y, ys[k]? = some y := ⟨ys[k]'(by rw [HN.out.1]; exact hlt), List.getElem?_eq_getElem (by rw [HN.out.1]; exact hlt)⟩
      have HY := Lib.hid hy
      obtain ⟨b, off, rfl, hbl, hcell⟩ := HRr.out.l.1.at_ (i := k) (by rw [HN.out.1]; exact hlt)
      have hmem := List.mem_of_getElem? hy
      obtain ⟨⟨xi, xw, xh, xa, xs, xf, xb⟩, hv, bv⟩ := y
      have hpy := HRr.out.pay _ hmem
      dsimp only at hpy
      obtain ⟨⟨ah, ch, rfl, _⟩, ⟨ab, cb, rfl, _⟩⟩ := hpy
      have c0 := hcell _ hy 0 (by omega)
      have c1 := hcell _ hy 1 (by omega)
      have c2 := hcell _ hy 2 (by omega)
      have c3 := hcell _ hy 3 (by omega)
      have c4 := hcell _ hy 4 (by omega)
      have c5 := hcell _ hy 5 (by omega)
      have c6 := hcell _ hy 6 (by omega)
      simp only [smC, List.getElem?_cons_succ, List.getElem?_cons_zero, Nat.add_zero] at c0 c1 c2 c3 c4 c5 c6
      have HCl := Lib.hid (show ∀ W, Below w.heap.size w W → W.cell? ⟨R, 1, none⟩ = some (.slice (some ⟨b, off, none⟩) N cl) ∧ R < W.heap.size ∧ ∀ j, j < 7 → W.cell? ⟨b, off + k * 7 + j, none⟩ = (smC ⟨⟨xi, xw, xh, xa, xs, xf, xb⟩, .slice ah xh.length ch, .slice ab xb.length cb⟩)[j]? from fun W hb => by
        have h1 := HR.out.below hb
        refine ⟨h1.blk.cells.2.1, h1.blk.lt, fun j hj => ?_⟩
        obtain ⟨b', off', e', _, hc'⟩ := h1.l.1.at_ (i := k) (by rw [HN.out.1]; exact hlt)
        simp only [Option.some.injEq, Addr.mk.injEq, and_true] at e'
        obtain ⟨rfl, rfl⟩ := e'
        exact hc' _ HY.out j hj)
      clear hcell hy hmem
      cases d
      · by_cases hle : id < xi
        · have d3 : decide (id < xi) = true := decide_eq_true hle
          have HLo := Lib.hid hle
          clear hle
          go_wp2_with (first
            | (at_builtin; refine app_row_at rfl (.tmp 50) (.tmp 54) 62 rfl w.heap.size 72 _ _ 7 72 Try.underlying62 HI.out.1 HI.out.2.1 HI.out.2.2.1 HI.out.2.2.2 rfl (by decide) _ L _ rfl (HPr.out.alloc _) _ 1 1 (smC ⟨⟨id, win, [], false, false, false, []⟩, .slice none 0 0, .slice none 0 0⟩) rfl (fun e => by cases e) rfl (fun ad e j u hu => by cases e; exact one_at (c := smC) (x := ⟨⟨id, win, [], false, false, false, []⟩, .slice none 0 0, .slice none 0 0⟩) (heap_alloc_new wr _) j u (by simpa [flatC] using hu)) (fun u hu => by simp only [smC, List.mem_cons, List.not_mem_nil, or_false] at hu; rcases hu with rfl | rfl | rfl | rfl | rfl | rfl | rfl <;> rfl) (by unfold maxLen; omega) (by omega) (by have := HP.out.b.size; simp; omega) ?_; intro v9 w9 own9 hb9 hg9 hat9; obtain ⟨a9, k9, rfl, _⟩ := owned_shape own9; have HB9 := Lib.hid (HP.out.b.trans (((Below.refl _ _).alloc HP.out.b.size _).trans hb9)); have HO9 := Lib.hid own9; clear c0 c1 c2 c3 c4 c5 c6 f0 f1 f2 own9 hb9 hg9 hat9; obtain ⟨f1, f2, hc9⟩ := HCl.out w9 HB9.out; have c0 := hc9 0 (by decide); have c1 := hc9 1 (by decide); have c2 := hc9 2 (by decide); have c3 := hc9 3 (by decide); have c4 := hc9 4 (by decide); have c5 := hc9 5 (by decide); have c6 := hc9 6 (by decide); simp only [smC, List.getElem?_cons_succ, List.getElem?_cons_zero, Nat.add_zero] at c0 c1 c2 c3 c4 c5 c6; clear hc9)
            | (at_builtin; refine app_row_at rfl (.tmp 56) (.tmp 64) 62 rfl w.heap.size 72 _ _ 7 72 Try.underlying62 HI.out.1 HI.out.2.1 HI.out.2.2.1 HI.out.2.2.2 rfl (by decide) _ (L + 1) _ rfl (HO9.out.alloc _) _ 1 1 (smC ⟨⟨xi, xw, xh, xa, xs, xf, xb⟩, .slice ah xh.length ch, .slice ab xb.length cb⟩) rfl (fun e => by cases e) rfl (fun ad e j u hu => by cases e; exact one_at (c := smC) (x := ⟨⟨xi, xw, xh, xa, xs, xf, xb⟩, .slice ah xh.length ch, .slice ab xb.length cb⟩) (heap_alloc_new w9 _) j u (by simpa [flatC] using hu)) (fun u hu => by simp only [smC, List.mem_cons, List.not_mem_nil, or_false] at hu; rcases hu with rfl | rfl | rfl | rfl | rfl | rfl | rfl <;> rfl) (by unfold maxLen; omega) (by omega) (by have := HB9.out.size; simp; omega) ?_; intro v7 w7 own7 hb7 hg7 hat7; obtain ⟨a7, k7, rfl, _⟩ := owned_shape own7))
          have HP9 := Lib.hid (show Op20 w w7 ys id win (k + 1) (.slice a7 (L + 1 + 1) k7) true from by
            refine ⟨HB9.out.trans (((Below.refl _ _).alloc HB9.out.size _).trans hb7), ?_, fun e => (by cases e), fun _ => ⟨⟨⟨xi, xw, xh, xa, xs, xf, xb⟩, .slice ah xh.length ch, .slice ab xb.length cb⟩, by rw [List.take_add_one, HY.out]; exact List.mem_append_right _ (by simp), HLo.out⟩⟩
            rw [out_here HY.out (HP.out.no rfl) HLo.out, List.length_append, List.length_append, HL.out, flatC_append, flatC_append, flatC_one, flatC_one]
            exact own7)
          clear own7 hb7 hg7 hat7
          go_roundg (N - (k + 1))
          case measure => have := HKQ.out; omega
          case rel => exact ⟨k + 1, by omega, by go_num, _, true, rfl, rfl, HP9⟩
        · have d3 : decide (id < xi) = false := decide_eq_false hle
          have HLo := Lib.hid hle
          clear hle
          go_wp2_with (at_builtin; refine app_row_at rfl (.tmp 56) (.tmp 64) 62 rfl w.heap.size 72 _ _ 7 72 Try.underlying62 HI.out.1 HI.out.2.1 HI.out.2.2.1 HI.out.2.2.2 rfl (by decide) _ L _ rfl (HPr.out.alloc _) _ 1 1 (smC ⟨⟨xi, xw, xh, xa, xs, xf, xb⟩, .slice ah xh.length ch, .slice ab xb.length cb⟩) rfl (fun e => by cases e) rfl (fun ad e j u hu => by cases e; exact one_at (c := smC) (x := ⟨⟨xi, xw, xh, xa, xs, xf, xb⟩, .slice ah xh.length ch, .slice ab xb.length cb⟩) (heap_alloc_new wr _) j u (by simpa [flatC] using hu)) (fun u hu => by simp only [smC, List.mem_cons, List.not_mem_nil, or_false] at hu; rcases hu with rfl | rfl | rfl | rfl | rfl | rfl | rfl <;> rfl) (by unfold maxLen; omega) (by omega) (by have := HP.out.b.size; simp; omega) ?_; intro v9 w9 own9 hb9 hg9 hat9; obtain ⟨a9, k9, rfl, _⟩ := owned_shape own9)
          have HP9 := Lib.hid (show Op20 w w9 ys id win (k + 1) (.slice a9 (L + 1) k9) false from by
            refine ⟨HP.out.b.trans (((Below.refl _ _).alloc HP.out.b.size _).trans hb9), ?_, ?_, ?_⟩
            · rw [out_low HY.out (HP.out.no rfl) (by have := HLo.out; show ¬ id < xi; omega), List.length_append, HL.out, flatC_append, flatC_one]
              exact own9
            · intro _ z hz
              rw [List.take_add_one, HY.out] at hz
              rcases List.mem_append.1 hz with hz | hz
              · exact HP.out.no rfl z hz
              · obtain rfl : z = _ := by simpa using hz
                have := HLo.out
                show ¬ id < xi
                omega
            · exact fun e => by cases e)
          clear own9 hb9 hg9 hat9
          go_roundg (N - (k + 1))
          case measure => have := HKQ.out; omega
          case rel => exact ⟨k + 1, by omega, by go_num, _, false, rfl, rfl, HP9⟩
      · go_wp2_with (at_builtin; refine app_row_at rfl (.tmp 56) (.tmp 64) 62 rfl w.heap.size 72 _ _ 7 72 Try.underlying62 HI.out.1 HI.out.2.1 HI.out.2.2.1 HI.out.2.2.2 rfl (by decide) _ L _ rfl (HPr.out.alloc _) _ 1 1 (smC ⟨⟨xi, xw, xh, xa, xs, xf, xb⟩, .slice ah xh.length ch, .slice ab xb.length cb⟩) rfl (fun e => by cases e) rfl (fun ad e j u hu => by cases e; exact one_at (c := smC) (x := ⟨⟨xi, xw, xh, xa, xs, xf, xb⟩, .slice ah xh.length ch, .slice ab xb.length cb⟩) (heap_alloc_new wr _) j u (by simpa [flatC] using hu)) (fun u hu => by simp only [smC, List.mem_cons, List.not_mem_nil, or_false] at hu; rcases hu with rfl | rfl | rfl | rfl | rfl | rfl | rfl <;> rfl) (by unfold maxLen; omega) (by omega) (by have := HP.out.b.size; simp; omega) ?_; intro v9 w9 own9 hb9 hg9 hat9; obtain ⟨a9, k9, rfl, _⟩ := owned_shape own9)
        have HP9 := Lib.hid (show Op20 w w9 ys id win (k + 1) (.slice a9 (L + 1) k9) true from by
          refine ⟨HP.out.b.trans (((Below.refl _ _).alloc HP.out.b.size _).trans hb9), ?_, ?_, ?_⟩
          · rw [out_high HY.out (HP.out.yes rfl), List.length_append, HL.out, flatC_append, flatC_one]
            exact own9
          · exact fun e => by cases e
          · intro _
            obtain ⟨z, hz, h1⟩ := HP.out.yes rfl
            exact ⟨z, by rw [List.take_add_one]; exact List.mem_append_left _ hz, h1⟩)
        clear own9 hb9 hg9 hat9
        go_roundg (N - (k + 1))
        case measure => have := HKQ.out; omega
        case rel => exact ⟨k + 1, by omega, by go_num, _, true, rfl, rfl, HP9⟩
    · obtain rfl : k = N := by omega
      have hall : ys.take k = ys := by rw [← HN.out.1, List.take_length]
      have HAl := Lib.hid hall
      clear hlt hk hall
      cases d
      · go_wp2_with (at_builtin; refine app_row_at rfl (.tmp 68) (.tmp 72) 62 rfl w.heap.size 72 _ _ 7 72 Try.underlying62 HI.out.1 HI.out.2.1 HI.out.2.2.1 HI.out.2.2.2 rfl (by decide) _ L _ rfl (HPr.out.alloc _) _ 1 1 (smC ⟨⟨id, win, [], false, false, false, []⟩, .slice none 0 0, .slice none 0 0⟩) rfl (fun e => by cases e) rfl (fun ad e j u hu => by cases e; exact one_at (c := smC) (x := ⟨⟨id, win, [], false, false, false, []⟩, .slice none 0 0, .slice none 0 0⟩) (heap_alloc_new wr _) j u (by simpa [flatC] using hu)) (fun u hu => by simp only [smC, List.mem_cons, List.not_mem_nil, or_false] at hu; rcases hu with rfl | rfl | rfl | rfl | rfl | rfl | rfl <;> rfl) (by unfold maxLen; omega) (by omega) (by have := HP.out.b.size; simp; omega) ?_; intro v9 w9 own9 hb9 hg9 hat9; obtain ⟨a9, k9, rfl, _⟩ := owned_shape own9; have HBz := Lib.hid (HP.out.b.trans (((Below.refl _ _).alloc HP.out.b.size _).trans hb9)); have HO9 := Lib.hid own9; have HRz := Lib.hid (show RsObj w9 R (.slice al k cl) ys q from HR.out.below HBz.out); clear f0 f1 f2 own9 hb9 hg9 hat9; have f2 := HRz.out.blk.lt; have f1 := HRz.out.blk.cells.2.1; have hfz : w9.frozen? ⟨R, 1, none⟩ = false := blk_free HRz.out.blk)
        have HRow := Lib.hid (show w9.ownsRow w.heap.size 72 7 (.slice a9 (L + 1) k9) (insV (newV id win) ys).length (flatC smC (insV (newV id win) ys)) from by
          have h1 : insV (newV id win) ys = outV id win false (ys.take k) ++ [newV id win] := by
            have h2 := HP.out.no rfl
            rw [HAl.out] at h2 ⊢
            have h3 := insV_low (v := newV id win) [] h2
            rw [List.append_nil] at h3
            rw [h3]
            rfl
          rw [h1, List.length_append, HL.out, flatC_append, flatC_one]
          exact HO9.out)
        have HLv := Lib.hid (show ∀ g, (Value.slice a9 (L + 1) k9).ownBlock = some g → w.heap.size ≤ g ∧ g < w9.heap.size from fun g hg => HO9.out.lt g hg)
        go_ret
        have ht := turn_set19 (W := w9) R 1 (.slice a9 (L + 1) k9)
        refine ⟨rfl, .slice a9 (L + 1) k9, ⟨heap_setCell_same _ R 1 _ _ _ HRz.out.blk, RowC.mono (owned_turn HRow.out ht (fun g hg e => by have := (HLv.out g hg).1; have := HR.out.blk.lt; have e2 : g = R := e; omega)) (Nat.zero_le _), fun y hy => ?_, ?_, fun g hg => ⟨fun e => by have := (HLv.out g hg).1; have := HR.out.blk.lt; omega, Nat.lt_of_lt_of_le (HLv.out g hg).2 ht.size⟩, fun y hy => ?_⟩, (Turn.of_below HBz.out).trans ht, fun g hg => (HLv.out g hg).1⟩
        · rcases insV_mem hy with rfl | hy
          · exact ⟨Sl.nil _ _, Sl.nil _ _⟩
          · exact ⟨(HRz.out.pay y hy).1.turn0 ht (fun h1 g hg => ((HR.out.np y hy).1 h1 g hg).1), (HRz.out.pay y hy).2.turn0 ht (fun h1 g hg => ((HR.out.np y hy).2 h1 g hg).1)⟩
        · rw [open20, insV_x, HR.out.e]; rfl
        · rcases insV_mem hy with rfl | hy
          · exact ⟨fun h1 => absurd rfl h1, fun h1 => absurd rfl h1⟩
          · exact ⟨fun h1 g hg => ⟨((HR.out.np y hy).1 h1 g hg).1, fun e => by have := (HLv.out g e).1; have := (HR.out.pay y hy).1.lt0 h1 hg; omega⟩, fun h1 g hg => ⟨((HR.out.np y hy).2 h1 g hg).1, fun e => by have := (HLv.out g e).1; have := (HR.out.pay y hy).2.lt0 h1 hg; omega⟩⟩
      · have HRz := HRr
        have HBz := Lib.hid HP.out.b
        have HRow := Lib.hid (show wr.ownsRow w.heap.size 72 7 (.slice ao L co) (insV (newV id win) ys).length (flatC smC (insV (newV id win) ys)) from by
          have h1 := HPr.out
          have h2 := HL.out
          rw [HAl.out] at h1 h2
          unfold outV at h1 h2
          rw [if_pos rfl] at h1 h2
          rw [h2]
          exact h1)
        have HLv := Lib.hid (show ∀ g, (Value.slice ao L co).ownBlock = some g → w.heap.size ≤ g ∧ g < wr.heap.size from fun g hg => HPr.out.lt g hg)
        have hfz : wr.frozen? ⟨R, 1, none⟩ = false := blk_free HRz.out.blk
        go_wp2_with fail
        go_ret
        have ht := turn_set19 (W := wr) R 1 (.slice ao L co)
        refine ⟨rfl, .slice ao L co, ⟨heap_setCell_same _ R 1 _ _ _ HRz.out.blk, RowC.mono (owned_turn HRow.out ht (fun g hg e => by have := (HLv.out g hg).1; have := HR.out.blk.lt; have e2 : g = R := e; omega)) (Nat.zero_le _), fun y hy => ?_, ?_, fun g hg => ⟨fun e => by have := (HLv.out g hg).1; have := HR.out.blk.lt; omega, Nat.lt_of_lt_of_le (HLv.out g hg).2 ht.size⟩, fun y hy => ?_⟩, (Turn.of_below HBz.out).trans ht, fun g hg => (HLv.out g hg).1⟩
        · rcases insV_mem hy with rfl | hy
          · exact ⟨Sl.nil _ _, Sl.nil _ _⟩
          · exact ⟨(HRz.out.pay y hy).1.turn0 ht (fun h1 g hg => ((HR.out.np y hy).1 h1 g hg).1), (HRz.out.pay y hy).2.turn0 ht (fun h1 g hg => ((HR.out.np y hy).2 h1 g hg).1)⟩
        · rw [open20, insV_x, HR.out.e]; rfl
        · rcases insV_mem hy with rfl | hy
          · exact ⟨fun h1 => absurd rfl h1, fun h1 => absurd rfl h1⟩
          · exact ⟨fun h1 g hg => ⟨((HR.out.np y hy).1 h1 g hg).1, fun e => by have := (HLv.out g e).1; have := (HR.out.pay y hy).1.lt0 h1 hg; omega⟩, fun h1 g hg => ⟨((HR.out.np y hy).2 h1 g hg).1, fun e => by have := (HLv.out g e).1; have := (HR.out.pay y hy).2.lt0 h1 hg; omega⟩⟩
end Go.Proofs.Ytnoegbdmjinfjaa
