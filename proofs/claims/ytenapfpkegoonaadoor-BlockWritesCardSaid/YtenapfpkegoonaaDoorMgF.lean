/-
  Several texts of mine, one behind the other: Law09, Law09a, Law09b, Quiet, Law09d, Law09c.
-/
import Derived.Test.YtenapfpkegoonaaDoorMgE
import Derived.Deep.QuietTactic

/-
  Layer 9's statements: closed answers; decoders side by side.
-/
namespace Go.Proofs.YtenapfpkegoonaaDoor
set_option maxRecDepth 20000
open Go.RowKit

def al9_m : Fd := (⟨#[58, 109, 101, 116, 104, 111, 100]⟩, ⟨#[71, 69, 84]⟩)
def al9_p : Fd := (⟨#[58, 112, 97, 116, 104]⟩, ⟨#[97]⟩)
def al9_b : Fd := (⟨#[98]⟩, ⟨#[99]⟩)
def al9_x : Fd := (⟨#[120]⟩, ⟨#[121]⟩)
theorem al9_r1 : readB 100 100 [] [130, 68, 1, 97, 64, 1, 98, 1, 99] = (⟨0, 100, [al9_b, al9_p], [al9_m, al9_p, al9_b]⟩, true) := by kernel_rfl
theorem al9_r2 : readB 100 100 [al9_b, al9_p] [190, 191] = (⟨0, 100, [al9_b, al9_p], [al9_b, al9_p]⟩, true) := by kernel_rfl
theorem al9_r3 : readB 100 100 [al9_b, al9_p] [32, 190] = (⟨1, 0, [], []⟩, false) := by kernel_rfl
theorem al9_e : encR true [al9_m, al9_x] = ([32, 130, 0, 1, 120, 1, 121], 0) := by kernel_rfl
theorem al9_s1 : sumF [al9_m, al9_p, al9_b] ≤ 999 ∧ 70 < sumF [al9_b, al9_p] := by decide +kernel

/-- a decoder with its table, all its blocks from B on -/
structure Ds (b : Int) (B D T : Nat) (v : Value) (most : Int) (fs : List Fd) (W : World) : Prop where
  dec : DecAt W D T
  tab : TabO W B T b most v fs.reverse
  m0 : 0 ≤ most
  mb : most ≤ b
  sum : (sumF fs : Int) ≤ most
theorem Ds.below {b : Int} {B D T : Nat} {v : Value} {most : Int} {fs : List Fd} {W W' : World} (h : Ds b B D T v most fs W) (hb : Below W.heap.size W W') : Ds b B D T v most fs W' := ⟨h.dec.below hb, h.tab.below hb, h.m0, h.mb, h.sum⟩
theorem Ds.lt {b : Int} {B D T : Nat} {v : Value} {most : Int} {fs : List Fd} {W : World} (h : Ds b B D T v most fs W) : B ≤ T ∧ T < W.heap.size ∧ ∀ g, v.ownBlock = some g → B ≤ g ∧ g < W.heap.size := ⟨h.tab.1, h.tab.2.1.lt, fun g hg => h.tab.2.2.lt g hg⟩
theorem Ds.low {b : Int} {B B' D T : Nat} {v : Value} {most : Int} {fs : List Fd} {W : World} (h : Ds b B D T v most fs W) (hB : B' ≤ B) : Ds b B' D T v most fs W := ⟨h.dec, ⟨Nat.le_trans hB h.tab.1, h.tab.2.1, h.tab.2.2.mono hB⟩, h.m0, h.mb, h.sum⟩
theorem Ds.size {b : Int} {B D T : Nat} {v : Value} {most : Int} {fs : List Fd} {W : World} (h : Ds b B D T v most fs W) (hb : b ≤ 4096) : fs.length ≤ 1000000000 ∧ sumF fs ≤ 1000000000 := by
  have := sumF_len fs
  have := h.sum
  have := h.mb
  omega
/-- what a call on another one's table turns is not its -/
theorem Ds.past {b b1 : Int} {B B1 D T T1 : Nat} {v v1 : Value} {most m1 : Int} {fs f1 : List Fd} {W W' : World} (h : Ds b B D T v most fs W) (h1 : TabO W B1 T1 b1 m1 v1 f1) (hT : T ≠ T1) (hv : ∀ g, v.ownBlock = some g → v1.ownBlock ≠ some g) (hm : Mv T1 v1 W W') : Ds b B D T v most fs W' :=
  ⟨h.dec.moved h1 hm, h.tab.of_blocks (hm.block _ h.tab.2.1.lt hT (fun e => h.tab.2.1.apart h1.2.2 e)) (fun g hg => hm.block g (h.tab.2.2.lt g hg).2 (fun e => h1.2.1.apart h.tab.2.2 (by rw [hg, e])) (hv g hg)), h.m0, h.mb, h.sum⟩
/-- nor a list that was told -/
theorem RowF.past {B B1 T1 : Nat} {lv v1 : Value} {l f1 : List Fd} {b1 m1 : Int} {W W' : World} (h : RowF W B lv l) (h1 : TabO W B1 T1 b1 m1 v1 f1) (hv : ∀ g, lv.ownBlock = some g → v1.ownBlock ≠ some g) (hm : Mv T1 v1 W W') : RowF W' B lv l :=
  h.of_block (fun g hg => hm.block g (h.lt g hg).2 (fun e => h1.2.1.apart h (by rw [hg, e])) (hv g hg))
theorem far_below {T B : Nat} {v u : Value} {k : IntKind} {w : World} {zs : List Int} (h : Sl k w u zs) (hB : w.heap.size ≤ B) (hT : B ≤ T) (hv : ∀ g, v.ownBlock = some g → B ≤ g) : Far T v u := fun g off q n c h0 e => by
  have := h.lt g off q n c h0 e
  exact ⟨by omega, fun e => by have := hv g e; omega⟩
theorem Mv.low {T B : Nat} {v : Value} {w w' : World} (h : Mv T v w w') (hT : B ≤ T) (hv : ∀ g, v.ownBlock = some g → B ≤ g) (hB : B ≤ w.heap.size) : Below B w w' := h.below hT hv hB
/-- Decode, of a decoder with its table -/
theorem ds_dec {b : Int} {B D T : Nat} {v : Value} {most : Int} {fs : List Fd} {W : World} (h : Ds b B D T v most fs W) (hB : B ≤ W.heap.size) (hb : b ≤ 4096) (hsh : ShT W) (hshB : 0 < B) (u : Value) (zs : List Int) (hs : Sl .u8 W u zs) (hz : zs.length ≤ 1000000) (hfar : Far T v u) (limit : Int) (hlim : limit ≤ 9223372036854775807) :
    Calls Tryd.prog 10 #[.pointer (some ⟨D, 0, none⟩), u, .int .i64 limit] W fun e w' => ∃ lv v', e = .returned (.tuple #[lv, .bool (tellC limit (readB b most fs zs)), .int .i64 (tellE (readB b most fs zs))]) ∧
      RowF w' W.heap.size lv (tellB limit (readB b most fs zs)) ∧ Ds b B D T v' (readB b most fs zs).1.most (readB b most fs zs).1.fs w' ∧ From W v v' ∧ Mv T v W w' ∧ (∀ g, lv.ownBlock = some g → v'.ownBlock ≠ some g) := by
  have hl := h.lt
  refine (bDec_any D T B b most limit v u fs zs W h.dec h.tab hs hz hfar hsh (by omega) (fun e => by have := hl.2.2 _ e; omega) hb ⟨h.m0, h.mb⟩ h.sum hlim hB).mono ?_
  rintro e w' ⟨lv, rfl, hr, v', hT, hf, hm, hap⟩
  have hok := (fold_ok hb (itemsOf zs) ⟨0, most, fs, []⟩ ⟨Nat.zero_le _, h.m0, h.mb, h.sum, fun f hf => by simp at hf⟩ (items_ok hs.fit)).1
  exact ⟨lv, v', rfl, hr, ⟨h.dec.moved h.tab hm, hT, hok.m0, hok.mb, hok.sum⟩, hf, hm, hap⟩
/-- a new one -/
theorem ds_new (b : Int) (w : World) (h0 : 0 ≤ b) (h1 : b ≤ 4096) : Calls Tryd.prog 7 #[.int .i64 b] w fun e w' => ∃ D T v, e = .returned (.tuple #[.pointer (some ⟨D, 0, none⟩), .int .i64 0]) ∧ Ds b w.heap.size D T v b [] w' ∧ Below w.heap.size w w' :=
  (bNew_any b w h0 h1).mono (by
    rintro e w' ⟨D, T, v, rfl, hD, hT, _, hb⟩
    exact ⟨D, T, v, rfl, ⟨hD, hT, h0, Int.le_refl _, h0⟩, hb⟩)
theorem ds_clone {b : Int} {B D T : Nat} {v : Value} {most : Int} {fs : List Fd} {W : World} (h : Ds b B D T v most fs W) (hb : b ≤ 4096) :
    Calls Tryd.prog 9 #[.pointer (some ⟨D, 0, none⟩)] W fun e w' => ∃ D' T' v', e = .returned (.pointer (some ⟨D', 0, none⟩)) ∧ Ds b W.heap.size D' T' v' most fs w' ∧ Below W.heap.size W w' :=
  (bClone_any D T B b most v fs.reverse W h.dec h.tab (by rw [List.length_reverse]; exact (h.size hb).1)).mono (by
    rintro e w' ⟨D', T', v', rfl, hD, hT, _, hb⟩
    exact ⟨D', T', v', rfl, ⟨hD, hT, h.m0, h.mb, h.sum⟩, hb⟩)
theorem ds_size {b : Int} {B D T : Nat} {v : Value} {most : Int} {fs : List Fd} {W : World} (h : Ds b B D T v most fs W) :
    Calls Tryd.prog 14 #[.pointer (some ⟨D, 0, none⟩)] W fun e w' => e = .returned (.int .i64 (sumF fs : Nat)) ∧ w' = W := by
  have := bSize_any D T B b most v fs.reverse W h.dec h.tab
  rwa [sumF_reverse] at this
theorem ds_table {b : Int} {B D T : Nat} {v : Value} {most : Int} {fs : List Fd} {W : World} (h : Ds b B D T v most fs W) (hb : b ≤ 4096) :
    Calls Tryd.prog 13 #[.pointer (some ⟨D, 0, none⟩)] W fun e w' => ∃ v', e = .returned v' ∧ RowF w' W.heap.size v' fs ∧ Below W.heap.size W w' :=
  bTable_any D T B b most v fs W h.dec h.tab (h.size hb).1

/-- the reference's table, all its blocks from B on -/
structure Rt (b : Int) (B R : Nat) (v : Value) (most : Int) (fs : List Fd) (W : World) : Prop where
  tab : TabR W B R b most v fs
  m0 : 0 ≤ most
  mb : most ≤ b
  sum : (sumF fs : Int) ≤ most
theorem Rt.below {b : Int} {B R : Nat} {v : Value} {most : Int} {fs : List Fd} {W W' : World} (h : Rt b B R v most fs W) (hb : Below W.heap.size W W') : Rt b B R v most fs W' := ⟨h.tab.below hb, h.m0, h.mb, h.sum⟩
theorem Rt.lt {b : Int} {B R : Nat} {v : Value} {most : Int} {fs : List Fd} {W : World} (h : Rt b B R v most fs W) : B ≤ R ∧ R < W.heap.size ∧ ∀ g, v.ownBlock = some g → B ≤ g ∧ g < W.heap.size := ⟨h.tab.1, h.tab.2.1.lt, fun g hg => h.tab.2.2.lt g hg⟩
theorem tab_ref {W : World} {T R : Nat} {b m b' m' z : Int} {v v' : Value} (h : TabAt W T b m v z) (h' : RefAt W R v' b' m') : T ≠ R := fun e => by
  subst e
  rw [TabAt, h'] at h
  injection h with h
  injection h with _ e2 _
  exact absurd e2 (by decide)
/-- the program's call on its table leaves the reference's -/
theorem Rt.past {b b1 : Int} {B B1 R T1 : Nat} {v v1 : Value} {most m1 : Int} {fs f1 : List Fd} {W W' : World} (h : Rt b B R v most fs W) (h1 : TabO W B1 T1 b1 m1 v1 f1) (hv : ∀ g, v.ownBlock = some g → v1.ownBlock ≠ some g) (hm : Mv T1 v1 W W') : Rt b B R v most fs W' :=
  ⟨h.tab.of_blocks (hm.block _ h.tab.2.1.lt (fun e => tab_ref h1.2.1 h.tab.2.1 e.symm) (fun e => h.tab.2.1.apart h1.2.2 e)) (fun g hg => hm.block g (h.tab.2.2.lt g hg).2 (fun e => h1.2.1.apart h.tab.2.2 (by rw [hg, e])) (hv g hg)), h.m0, h.mb, h.sum⟩
/-- and the other way round -/
theorem Ds.pastR {b b1 : Int} {B B1 D T R : Nat} {v v1 : Value} {most m1 : Int} {fs f1 : List Fd} {W W' : World} (h : Ds b B D T v most fs W) (h1 : TabR W B1 R b1 m1 v1 f1) (hv : ∀ g, v.ownBlock = some g → v1.ownBlock ≠ some g) (hm : Mv R v1 W W') : Ds b B D T v most fs W' :=
  ⟨(hm.block _ h.dec.lt (fun e => by
    have h2 := h1.2.1
    have h3 := h.dec
    rw [RefAt, ← e, h3] at h2
    injection h2 with h2
    injection h2 with _ e2 _
    exact absurd e2 (by decide)) (h1.2.2.apart h.dec (fun cs fr e => by injection e with _ e2 _; exact absurd e2 (by decide)))).trans h.dec,
  h.tab.of_blocks (hm.block _ h.tab.2.1.lt (tab_ref h.tab.2.1 h1.2.1) (fun e => h.tab.2.1.apart h1.2.2 e)) (fun g hg => hm.block g (h.tab.2.2.lt g hg).2 (fun e => h1.2.1.apart h.tab.2.2 (by rw [hg, e])) (hv g hg)), h.m0, h.mb, h.sum⟩
theorem RowF.pastR {B B1 R : Nat} {lv v1 : Value} {l f1 : List Fd} {b1 m1 : Int} {W W' : World} (h : RowF W B lv l) (h1 : TabR W B1 R b1 m1 v1 f1) (hv : ∀ g, lv.ownBlock = some g → v1.ownBlock ≠ some g) (hm : Mv R v1 W W') : RowF W' B lv l :=
  h.of_block (fun g hg => hm.block g (h.lt g hg).2 (fun e => h1.2.1.apart h (by rw [hg, e])) (hv g hg))
theorem rt_dec {b : Int} {B R : Nat} {v : Value} {most : Int} {fs : List Fd} {W : World} (h : Rt b B R v most fs W) (hB : B ≤ W.heap.size) (hb : b ≤ 4096) (u : Value) (zs : List Int) (hs : Sl .u8 W u zs) (hz : zs.length ≤ 5000) (hfar : Far R v u) (limit : Int) :
    Calls Tryd.prog 11 #[.pointer (some ⟨R, 0, none⟩), u, .int .i64 limit] W fun e w' => ∃ lv v', e = .returned (.tuple #[lv, .bool (tellC limit (readB b most fs zs)), .int .i64 (tellE (readB b most fs zs))]) ∧
      RowF w' W.heap.size lv (tellB limit (readB b most fs zs)) ∧ Rt b B R v' (readB b most fs zs).1.most (readB b most fs zs).1.fs w' ∧ From W v v' ∧ Mv R v W w' := by
  refine (refBDec_any R B b most limit v u fs zs W h.tab hs hz hfar hb ⟨h.m0, h.mb⟩ h.sum hB).mono ?_
  rintro e w' ⟨lv, rfl, hr, v', hT, hf, hm⟩
  have hok := (fold_ok hb (itemsOf zs) ⟨0, most, fs, []⟩ ⟨Nat.zero_le _, h.m0, h.mb, h.sum, fun f hf => by simp at hf⟩ (items_ok hs.fit)).1
  exact ⟨lv, v', rfl, hr, ⟨hT, hok.m0, hok.mb, hok.sum⟩, hf, hm⟩
theorem rt_begin (b : Int) (w : World) (h0 : 0 ≤ b) : Calls Tryd.prog 8 #[.int .i64 b] w fun e w' => ∃ R v, e = .returned (.pointer (some ⟨R, 0, none⟩)) ∧ Rt b w.heap.size R v b [] w' ∧ Below w.heap.size w w' :=
  (begin_any b w).mono (by
    rintro e w' ⟨rfl, hT, hb⟩
    exact ⟨_, _, rfl, ⟨hT, h0, Int.le_refl _, h0⟩, hb⟩)
end Go.Proofs.YtenapfpkegoonaaDoor

/-
  Layer 9's statements: the live question.
-/
namespace Go.Proofs.YtenapfpkegoonaaDoor
set_option maxRecDepth 20000
open Go.RowKit

theorem al9_t1 : tellB 999 (⟨0, 100, [al9_b, al9_p], [al9_m, al9_p, al9_b]⟩, true) = [al9_m, al9_p, al9_b] ∧ tellC 999 (⟨0, 100, [al9_b, al9_p], [al9_m, al9_p, al9_b]⟩, true) = false ∧ tellE (⟨0, 100, [al9_b, al9_p], [al9_m, al9_p, al9_b]⟩, true) = 0 := by decide +kernel
theorem al9_t2 : tellB 70 (⟨0, 100, [al9_b, al9_p], [al9_b, al9_p]⟩, true) = [] ∧ tellC 70 (⟨0, 100, [al9_b, al9_p], [al9_b, al9_p]⟩, true) = true ∧ tellE (⟨0, 100, [al9_b, al9_p], [al9_b, al9_p]⟩, true) = 0 := by decide +kernel
theorem al9_t3 : tellB 999 (⟨1, 0, [], []⟩, false) = [] ∧ tellC 999 (⟨1, 0, [], []⟩, false) = false ∧ tellE (⟨1, 0, [], []⟩, false) = 3 := by decide +kernel
/-- the decoder, behind what has gone on since w -/
def Al9 (w : World) (D T : Nat) (v : Value) (most : Int) (fs : List Fd) (W : World) : Prop := Ds 100 w.heap.size D T v most fs W ∧ Below w.heap.size w W ∧ w.heap.size ≤ W.heap.size
theorem Al9.grown {w W W' : World} {D T : Nat} {v : Value} {most : Int} {fs : List Fd} (h : Al9 w D T v most fs W) (hb : Below W.heap.size W W') : Al9 w D T v most fs W' := ⟨h.1.below hb, h.2.1.trans (hb.mono h.2.2), Nat.le_trans h.2.2 hb.size⟩
theorem Al9.moved {w W W' : World} {D T : Nat} {v v' : Value} {most most' : Int} {fs fs' : List Fd} (h : Al9 w D T v most fs W) (h1 : Ds 100 w.heap.size D T v' most' fs' W') (hm : Mv T v W W') : Al9 w D T v' most' fs' W' :=
  ⟨h1, h.2.1.trans (hm.low h.1.lt.1 (fun g hg => (h.1.lt.2.2 g hg).1) h.2.2), Nat.le_trans h.2.2 hm.size⟩
theorem far_new {T n c : Nat} {v : Value} {W : World} {b most : Int} {B D : Nat} {fs : List Fd} (h : Ds b B D T v most fs W) : Far T v (.slice (some ⟨W.heap.size, 0, none⟩) n c) := fun g off q n c _ e => by
  simp only [Value.slice.injEq, Option.some.injEq, Addr.mk.injEq] at e
  obtain ⟨⟨rfl, _, _⟩, _⟩ := e
  exact ⟨by have := h.lt.2.1; omega, fun e => by have := (h.lt.2.2 _ e).2; omega⟩
theorem sld_lit {w : World} (fs : List Fd) (n : Nat) (hn : n = fs.length) (hm : fs.length ≤ maxLen) (cs : Array Value) (hc : cs = (fcs fs).toArray) (g : Nat) (hg : g = w.heap.size) : SlD (w.alloc (.cells cs 46)) (.slice (some ⟨g, 0, none⟩) n n) fs := by
  subst hn; subst hc; subst hg
  refine ⟨_, _, rfl, Nat.le_refl _, hm, .inr ⟨w.heap.size, 0, rfl, by simp, fun i f hi => ?_⟩⟩
  have h0 := fcs_at fs i f hi
  rw [Nat.zero_add]
  exact ⟨blk_cell (heap_alloc_new w _) (by simpa using h0.1), blk_cell (heap_alloc_new w _) (by simpa using h0.2)⟩

theorem fld_eql_self (a b : ByteArray) (w : World) : (binOp .eql 46 (.agg #[.string a, .string b]) (.agg #[.string a, .string b])).run Tryd.prog w = .ok (.bool true) w := by
  rw [fld_eql, show (eqB a a && eqB b b) = true by rw [Bool.and_eq_true]; exact ⟨eqB_iff.2 rfl, eqB_iff.2 rfl⟩]
/-- a list that was told, beside the decoder's table -/
def Aside (v lv : Value) (l : List Fd) (W : World) : Prop := RowF W 0 lv l ∧ ∀ g, lv.ownBlock = some g → v.ownBlock ≠ some g
theorem Aside.moved {v v' lv : Value} {l f1 : List Fd} {T1 B1 : Nat} {b1 m1 : Int} {W W' : World} (h : Aside v lv l W) (h1 : TabO W B1 T1 b1 m1 v f1) (hf : From W v v') (hm : Mv T1 v W W') : Aside v' lv l W' :=
  ⟨h.1.past h1 h.2 hm, fun g hg e => by
    rcases hf g e with h2 | h2
    · exact h.2 g hg h2
    · have := (h.1.lt g hg).2
      omega⟩
theorem Aside.grown {v lv : Value} {l : List Fd} {W W' : World} (h : Aside v lv l W) (hb : Below W.heap.size W W') : Aside v lv l W' := ⟨h.1.below hb, h.2⟩
set_option maxHeartbeats 4000000 in
theorem alive09 (w : World) (hT : ShT w) : Calls Tryd.prog 6 #[] w fun e w' => e = .returned (.bool true) ∧ Below w.heap.size w w' := by
  have HT : Hid (∀ W, Below w.heap.size w W → ShT W) := fun W h => hT.low h hT.lt
  have HG := Lib.hid hT.lt
  clear hT
  go_enter Tryd.func6, Tryd.ntmps6
  go_wp2_with fail
  refine (ds_new 100 w (by decide) (by decide)).mono ?_
  rintro e w1 ⟨D, T, v, rfl, hd, hb⟩
  have H1 : Hid (Al9 w D T v 100 [] w1) := ⟨hd, hb, hb.size⟩
  clear hd hb
  go_wp2_with fail
  have hA := H1.out.grown ((Below.refl w1.heap.size w1).alloc (Nat.le_refl _) (.cells #[.int .u8 130, .int .u8 68, .int .u8 1, .int .u8 97, .int .u8 64, .int .u8 1, .int .u8 98, .int .u8 1, .int .u8 99] 5))
  refine (ds_dec hA.1 hA.2.2 (by decide) (HT.out _ hA.2.1) HG.out _ [130, 68, 1, 97, 64, 1, 98, 1, 99] (Sl.lit [130, 68, 1, 97, 64, 1, 98, 1, 99] rfl rfl rfl (by decide) (by decide)) (by decide) (far_new H1.out.1) 999 (by decide)).mono ?_
  rintro e w2 ⟨l1, v2, rfl, hr1, hd2, hf2, hm2, hap2⟩
  rw [al9_r1] at hr1 hd2 ⊢
  rw [al9_t1.1] at hr1
  rw [al9_t1.2.1, al9_t1.2.2]
  have hd2' : Ds 100 w.heap.size D T v2 100 [al9_b, al9_p] w2 := hd2
  have H2 : Hid (Al9 w D T v2 100 [al9_b, al9_p] w2 ∧ Aside v2 l1 [al9_m, al9_p, al9_b] w2) := ⟨hA.moved hd2' hm2, hr1.mono (Nat.zero_le _), hap2⟩
  clear hA hr1 hd2 hd2' hf2 hm2 hap2 H1
  obtain ⟨a1, c1, e1⟩ := H2.out.2.1.shape
  change l1 = .slice a1 3 c1 at e1
  subst e1
  go_wp2_with fail
  have hG := (Below.refl w2.heap.size w2).alloc (Nat.le_refl _) (.cells #[.int .u8 190, .int .u8 191] 5)
  have hA := H2.out.1.grown hG
  refine (ds_dec hA.1 hA.2.2 (by decide) (HT.out _ hA.2.1) HG.out _ [190, 191] (Sl.lit [190, 191] rfl rfl rfl (by decide) (by decide)) (by decide) (far_new H2.out.1.1) 70 (by decide)).mono ?_
  rintro e w3 ⟨l2, v3, rfl, hr2, hd3, hf3, hm3, _⟩
  rw [al9_r2] at hr2 hd3 ⊢
  rw [al9_t2.1] at hr2
  rw [al9_t2.2.1, al9_t2.2.2]
  have hd3' : Ds 100 w.heap.size D T v3 100 [al9_b, al9_p] w3 := hd3
  have H3 : Hid (Al9 w D T v3 100 [al9_b, al9_p] w3 ∧ Aside v3 (.slice a1 3 c1) [al9_m, al9_p, al9_b] w3) := ⟨hA.moved hd3' hm3, (H2.out.2.grown hG).moved hA.1.tab hf3 hm3⟩
  obtain ⟨a2, c2, e2⟩ := hr2.shape
  change l2 = .slice a2 0 c2 at e2
  subst e2
  clear hA hG hr2 hd3 hd3' hf3 hm3 H2
  go_wp2_with fail
  have hG := (Below.refl w3.heap.size w3).alloc (Nat.le_refl _) (.cells #[.int .u8 32, .int .u8 190] 5)
  have hA := H3.out.1.grown hG
  refine (ds_dec hA.1 hA.2.2 (by decide) (HT.out _ hA.2.1) HG.out _ [32, 190] (Sl.lit [32, 190] rfl rfl rfl (by decide) (by decide)) (by decide) (far_new H3.out.1.1) 999 (by decide)).mono ?_
  rintro e w4 ⟨l3, v4, rfl, hr3, hd4, hf4, hm4, _⟩
  rw [al9_r3] at hr3 hd4 ⊢
  rw [al9_t3.1] at hr3
  rw [al9_t3.2.1, al9_t3.2.2]
  have hd4' : Ds 100 w.heap.size D T v4 0 [] w4 := hd4
  have H4 : Hid (Al9 w D T v4 0 [] w4 ∧ Aside v4 (.slice a1 3 c1) [al9_m, al9_p, al9_b] w4) := ⟨hA.moved hd4' hm4, (H3.out.2.grown hG).moved hA.1.tab hf4 hm4⟩
  obtain ⟨a3, c3, e3⟩ := hr3.shape
  change l3 = .slice a3 0 c3 at e3
  subst e3
  clear hA hG hr3 hd4 hd4' hf4 hm4 H3
  go_wp2_with fail
  have hG := (Below.refl w4.heap.size w4).alloc (Nat.le_refl _) (.cells #[.string ⟨#[58, 109, 101, 116, 104, 111, 100]⟩, .string ⟨#[71, 69, 84]⟩, .string ⟨#[120]⟩, .string ⟨#[121]⟩] 46)
  have hA := H4.out.1.grown hG
  refine (bEnc_any _ [al9_m, al9_x] true _ (sld_lit [al9_m, al9_x] 2 rfl (by decide) _ rfl _ rfl) (by decide) (HT.out _ hA.2.1)).mono ?_
  rintro e w5 ⟨bu, rfl, hbu, hb5⟩
  rw [al9_e] at hbu ⊢
  have H5 : Hid (Al9 w D T v4 0 [] w5 ∧ Aside v4 (.slice a1 3 c1) [al9_m, al9_p, al9_b] w5 ∧ Sl .u8 w5 bu [32, 130, 0, 1, 120, 1, 121]) := ⟨hA.grown hb5, (H4.out.2.grown hG).grown hb5, hbu⟩
  obtain ⟨ab, cb, eb, _⟩ := id hbu
  subst eb
  clear hA hG hbu hb5 H4
  obtain ⟨bl, ol, el, hbl, hx0⟩ := H5.out.2.1.1.toSl.at_ (i := 0) (by decide)
  obtain ⟨_, _, el1, _, hx1⟩ := H5.out.2.1.1.toSl.at_ (i := 1) (by decide)
  obtain ⟨_, _, el2, _, hx2⟩ := H5.out.2.1.1.toSl.at_ (i := 2) (by decide)
  subst el
  cases el1
  cases el2
  obtain ⟨p0, q0⟩ := hx0 al9_m rfl
  obtain ⟨p1, q1⟩ := hx1 al9_p rfl
  obtain ⟨p2, q2⟩ := hx2 al9_b rfl
  have p0' : w5.cell? ⟨bl, ol, none⟩ = some (.string ⟨#[58, 109, 101, 116, 104, 111, 100]⟩) := p0
  have q0' : w5.cell? ⟨bl, ol + 1, none⟩ = some (.string ⟨#[71, 69, 84]⟩) := q0
  have p1' : w5.cell? ⟨bl, ol + 2, none⟩ = some (.string ⟨#[58, 112, 97, 116, 104]⟩) := p1
  have q1' : w5.cell? ⟨bl, ol + 2 + 1, none⟩ = some (.string ⟨#[97]⟩) := q1
  have q1'' : w5.cell? ⟨bl, ol + 3, none⟩ = some (.string ⟨#[97]⟩) := q1'
  have p2' : w5.cell? ⟨bl, ol + 4, none⟩ = some (.string ⟨#[98]⟩) := p2
  have q2' : w5.cell? ⟨bl, ol + 4 + 1, none⟩ = some (.string ⟨#[99]⟩) := q2
  have q2'' : w5.cell? ⟨bl, ol + 5, none⟩ = some (.string ⟨#[99]⟩) := q2'
  have E0 : ∀ W, (binOp .eql 46 (.agg #[.string ⟨#[58, 109, 101, 116, 104, 111, 100]⟩, .string ⟨#[71, 69, 84]⟩]) (.agg #[.string ⟨#[58, 109, 101, 116, 104, 111, 100]⟩, .string ⟨#[71, 69, 84]⟩])).run Tryd.prog W = .ok (.bool true) W := fun W => fld_eql_self _ _ W
  have E1 : ∀ W, (binOp .eql 46 (.agg #[.string ⟨#[58, 112, 97, 116, 104]⟩, .string ⟨#[97]⟩]) (.agg #[.string ⟨#[58, 112, 97, 116, 104]⟩, .string ⟨#[97]⟩])).run Tryd.prog W = .ok (.bool true) W := fun W => fld_eql_self _ _ W
  have E2 : ∀ W, (binOp .eql 46 (.agg #[.string ⟨#[98]⟩, .string ⟨#[99]⟩]) (.agg #[.string ⟨#[98]⟩, .string ⟨#[99]⟩])).run Tryd.prog W = .ok (.bool true) W := fun W => fld_eql_self _ _ W
  clear hx0 hx1 hx2 p0 q0 p1 q1 p2 q2
  go_wp2_with fail
  have hG := (Below.refl w5.heap.size w5).alloc (Nat.le_refl _) (.cells #[.int .u8 32, .int .u8 130, .int .u8 0, .int .u8 1, .int .u8 120, .int .u8 1, .int .u8 121] 5)
  refine (same_any _ _ [32, 130, 0, 1, 120, 1, 121] [32, 130, 0, 1, 120, 1, 121] _ (H5.out.2.2.below hG) (Sl.lit [32, 130, 0, 1, 120, 1, 121] rfl rfl rfl (by decide) (by decide))).mono ?_
  rintro e w6 ⟨rfl, n6, hw6⟩
  have hb6 : Below w5.heap.size w5 w6 := by rw [hw6]; exact below_drewN hG n6
  have H6 := Lib.hid (H5.out.1.grown hb6)
  clear hG hw6 hb6 p0' q0' p1' q1' q1'' p2' q2' q2'' E0 E1 E2
  go_wp2_with fail
  refine (ds_size H6.out.1).mono ?_
  rintro e w7 ⟨rfl, hw7⟩
  rw [hw7]
  clear hw7
  go_wp2_with fail
  go_ret
  exact ⟨rfl, H6.out.2.1⟩
end Go.Proofs.YtenapfpkegoonaaDoor

/-
  Layer 9's statements: whatever the limit.
-/
namespace Go.Proofs.YtenapfpkegoonaaDoor
set_option maxRecDepth 20000
open Go.RowKit

/-- a decoder, behind what has gone on since w -/
def Lv (b : Int) (w : World) (D T : Nat) (v : Value) (most : Int) (fs : List Fd) (W : World) : Prop := Ds b w.heap.size D T v most fs W ∧ Below w.heap.size w W ∧ w.heap.size ≤ W.heap.size
theorem Lv.grown {b : Int} {w W W' : World} {D T : Nat} {v : Value} {most : Int} {fs : List Fd} (h : Lv b w D T v most fs W) (hb : Below W.heap.size W W') : Lv b w D T v most fs W' := ⟨h.1.below hb, h.2.1.trans (hb.mono h.2.2), Nat.le_trans h.2.2 hb.size⟩
theorem Lv.moved {b : Int} {w W W' : World} {D T : Nat} {v v' : Value} {most most' : Int} {fs fs' : List Fd} (h : Lv b w D T v most fs W) (h1 : Ds b w.heap.size D T v' most' fs' W') (hm : Mv T v W W') : Lv b w D T v' most' fs' W' :=
  ⟨h1, h.2.1.trans (hm.low h.1.lt.1 (fun g hg => (h.1.lt.2.2 g hg).1) h.2.2), Nat.le_trans h.2.2 hm.size⟩
/-- two tables are apart -/
def Apt (T : Nat) (v : Value) (T2 : Nat) (v2 : Value) : Prop := T ≠ T2 ∧ ∀ g, v.ownBlock = some g → v2.ownBlock ≠ some g
theorem Apt.symm {T T2 : Nat} {v v2 : Value} (h : Apt T v T2 v2) : Apt T2 v2 T v := ⟨fun e => h.1 e.symm, fun g hg e => h.2 g e hg⟩
theorem Apt.moved {T T2 : Nat} {v v' v2 : Value} {W : World} {b most : Int} {B D : Nat} {fs : List Fd} (h : Apt T v T2 v2) (hf : From W v v') (h2 : Ds b B D T2 v2 most fs W) : Apt T v' T2 v2 := ⟨h.1, fun g hg e => by
  rcases hf g hg with h1 | h1
  · exact h.2 g h1 e
  · have := (h2.lt.2.2 g e).2; omega⟩
/-- the other one, behind a call on the one -/
theorem Lv.past {b b1 : Int} {w W W' : World} {D D1 T T1 : Nat} {v v1 v1' : Value} {most m1 m1' : Int} {fs f1 f1' : List Fd} (h : Lv b w D T v most fs W) (h1 : Lv b1 w D1 T1 v1 m1 f1 W) (h1' : Lv b1 w D1 T1 v1' m1' f1' W') (ha : Apt T v T1 v1) (hm : Mv T1 v1 W W') : Lv b w D T v most fs W' :=
  ⟨h.1.past h1.1.tab ha.1 ha.2 hm, h1'.2.1, h1'.2.2⟩
/-- a clone: the other one stays as it was, and they are apart -/
theorem Lv.clone {b : Int} {w W W' : World} {D T D2 T2 : Nat} {v v2 : Value} {most : Int} {fs : List Fd} (h : Lv b w D T v most fs W) (h2 : Ds b W.heap.size D2 T2 v2 most fs W') (hb : Below W.heap.size W W') : Lv b w D T v most fs W' ∧ Lv b w D2 T2 v2 most fs W' ∧ Apt T v T2 v2 :=
  ⟨h.grown hb, ⟨h2.low h.2.2, (h.grown hb).2.1, (h.grown hb).2.2⟩, by have := h.1.lt.2.1; have := h2.lt.1; omega, fun g hg e => by have := (h.1.lt.2.2 g hg).2; have := (h2.lt.2.2 g e).1; omega⟩
theorem lv_dec {b : Int} {w W : World} {D T : Nat} {v : Value} {most : Int} {fs : List Fd} (h : Lv b w D T v most fs W) (hb : b ≤ 4096) (hsh : ShT w) (u : Value) (zs : List Int) (hs : Sl .u8 w u zs) (hz : zs.length ≤ 1000000) (limit : Int) (hlim : limit ≤ 9223372036854775807) :
    Calls Tryd.prog 10 #[.pointer (some ⟨D, 0, none⟩), u, .int .i64 limit] W fun e w' => ∃ lv v', e = .returned (.tuple #[lv, .bool (tellC limit (readB b most fs zs)), .int .i64 (tellE (readB b most fs zs))]) ∧
      RowF w' W.heap.size lv (tellB limit (readB b most fs zs)) ∧ Lv b w D T v' (readB b most fs zs).1.most (readB b most fs zs).1.fs w' ∧ From W v v' ∧ Mv T v W w' :=
  (ds_dec h.1 h.2.2 hb (hsh.below h.2.1) hsh.lt u zs (hs.below h.2.1) hz (far_below hs (Nat.le_refl _) h.1.lt.1 (fun g hg => (h.1.lt.2.2 g hg).1)) limit hlim).mono (by
    rintro e w' ⟨lv, v', rfl, h1, h2, h3, h4, _⟩
    exact ⟨lv, v', rfl, h1, h.moved h2 h4, h3, h4⟩)
/-- what two limits tell of one reading -/
theorem two_limits (l0 l1 : Int) (X : Rs × Bool) :
    (tellE X = 3 ∧ tellC l0 X = false ∧ tellC l1 X = false ∧ tellB l0 X = [] ∧ tellB l1 X = []) ∨
    (tellE X = 0 ∧ tellC l0 X = false ∧ tellC l1 X = false ∧ tellB l0 X = tellB l1 X) ∨
    (tellE X = 0 ∧ tellC l0 X = true ∧ tellC l1 X = false ∧ l0 < l1) ∨
    (tellE X = 0 ∧ tellC l0 X = false ∧ tellC l1 X = true ∧ l1 < l0) ∨
    (tellE X = 0 ∧ tellC l0 X = true ∧ tellC l1 X = true) := by
  obtain ⟨r, ok⟩ := X
  cases ok with
  | false => exact .inl ⟨rfl, rfl, rfl, rfl, rfl⟩
  | true =>
    refine .inr ?_
    unfold tellC tellB tellE
    simp only [if_true, Bool.true_and]
    by_cases h0 : l0 < (sumF r.out : Int)
    · by_cases h1 : l1 < (sumF r.out : Int)
      · exact .inr (.inr (.inr ⟨trivial, decide_eq_true h0, decide_eq_true h1⟩))
      · exact .inr (.inl ⟨trivial, decide_eq_true h0, decide_eq_false h1, by omega⟩)
    · by_cases h1 : l1 < (sumF r.out : Int)
      · exact .inr (.inr (.inl ⟨trivial, decide_eq_false h0, decide_eq_true h1, by omega⟩))
      · exact .inl ⟨trivial, decide_eq_false h0, decide_eq_false h1, by rw [tellL_fit (by omega), tellL_fit (by omega)]⟩
set_option maxHeartbeats 4000000 in
theorem limits09 (u u2 : Value) (zs ys : List Int) (l0 l1 : Int) (w : World) (hs : Sl .u8 w u zs) (hs2 : Sl .u8 w u2 ys) (h0 : l0 ≤ 9223372036854775807) (h1 : l1 ≤ 9223372036854775807) (hz : zs.length ≤ 300) (hy : ys.length ≤ 300) (hT : ShT w) :
    Calls Tryd.prog 5 #[u, u2, .agg #[.int .i64 l0, .int .i64 l1]] w fun e w' => e = .returned (.bool true) ∧ Below w.heap.size w w' := by
  obtain ⟨a, c, hu, _⟩ := id hs
  obtain ⟨a2, c2, hu2, _⟩ := id hs2
  subst hu; subst hu2
  have hBx : Below w.heap.size w (w.alloc (.cells #[.int .i64 l0, .int .i64 l1] 51)) := (Below.refl _ _).alloc (Nat.le_refl _) _
  obtain ⟨W0, hW0⟩ : ∃ W0, W0 = w.alloc (.cells #[.int .i64 l0, .int .i64 l1] 51) := ⟨_, rfl⟩
  have hbox : W0.heap[w.heap.size]? = some (.cells #[.int .i64 l0, .int .i64 l1] 51 (0, 0)) := by rw [hW0]; exact heap_alloc_new _ _
  rw [← hW0] at hBx
  have HI := Lib.hid (And.intro (hs.below hBx) (And.intro (hs2.below hBx) (And.intro (hT.below hBx) (And.intro hBx hbox))))
  have HW0 := Lib.hid hW0
  obtain ⟨N, hN⟩ : ∃ N, N = zs.length := ⟨_, rfl⟩
  obtain ⟨N2, hN2⟩ : ∃ N2, N2 = ys.length := ⟨_, rfl⟩
  rw [← hN, ← hN2] at HI
  rw [← hN, ← hN2]
  have HN := Lib.hid (And.intro hN hN2)
  have hNl : N ≤ 300 := by omega
  have hNl2 : N2 ≤ 300 := by omega
  clear hs hs2 hT hBx hbox hW0 hN hN2
  go_enter Tryd.func5, Tryd.ntmps5
  go_wp2_with fail
  rw [← HW0.out]
  refine (ds_new 200 W0 (by decide) (by decide)).mono ?_
  rintro e w1 ⟨D, T, v, rfl, hd, hb⟩
  have H1 : Hid (Lv 200 W0 D T v 200 [] w1) := ⟨hd, hb, hb.size⟩
  clear hd hb
  go_wp2_with fail
  refine (lv_dec H1.out (by decide) HI.out.2.2.1 _ ys HI.out.2.1 (by omega) 999 (by decide)).mono ?_
  rintro e w2 ⟨lv2, v2, rfl, _, hd2, _, _⟩
  obtain ⟨m2, hm2⟩ : ∃ m2, m2 = (readB 200 200 [] ys).1.most := ⟨_, rfl⟩
  obtain ⟨f2, hf2⟩ : ∃ f2, f2 = (readB 200 200 [] ys).1.fs := ⟨_, rfl⟩
  rw [← hm2, ← hf2] at hd2
  have H2 := Lib.hid hd2
  clear hd2 hm2 hf2 H1
  go_wp2_with fail
  refine (ds_clone H2.out.1 (by decide)).mono ?_
  rintro e w3 ⟨D', T', v', rfl, hd3, hb3⟩
  have H3 := Lib.hid (H2.out.clone hd3 hb3)
  clear hd3 hb3 H2
  obtain ⟨X, hX⟩ : ∃ X, X = readB 200 m2 f2 zs := ⟨_, rfl⟩
  have hx3 := (H3.out.1.2.1.block _ (Array.getElem?_eq_some_iff.1 HI.out.2.2.2.2).1).trans HI.out.2.2.2.2
  have y0 := blk_cell (j := 0) hx3 rfl
  have y1 := blk_cell (j := 1) hx3 rfl
  have HX := Lib.hid hX
  clear hx3 hX
  go_wp2_with fail
  refine (lv_dec H3.out.1 (by decide) HI.out.2.2.1 _ zs HI.out.1 (by omega) l0 h0).mono ?_
  rw [← HX.out]
  rintro e w4 ⟨x4, v4, rfl, hr4, hd4, hf4, hm4⟩
  have hk4 := Lv.past H3.out.2.1 H3.out.1 hd4 H3.out.2.2.symm hm4
  have ha4 := H3.out.2.2.moved hf4 H3.out.2.1.1
  have hx4 := (hd4.2.1.block _ (Array.getElem?_eq_some_iff.1 HI.out.2.2.2.2).1).trans HI.out.2.2.2.2
  have H4 : Hid (Lv 200 W0 D T v4 X.1.most X.1.fs w4 ∧ Lv 200 W0 D' T' v' m2 f2 w4 ∧ Apt T v4 T' v' ∧ RowF w4 0 x4 (tellB l0 X) ∧ ∀ g, x4.ownBlock = some g → v'.ownBlock ≠ some g) :=
    ⟨hd4, hk4, ha4, hr4.mono (Nat.zero_le _), fun g hg e => by have := (hr4.lt g hg).1; have := (H3.out.2.1.1.lt.2.2 g e).2; omega⟩
  clear y0 y1
  have y0 := blk_cell (j := 0) hx4 rfl
  have y1 := blk_cell (j := 1) hx4 rfl
  clear hr4 hd4 hf4 hm4 hk4 ha4 hx4 H3
  go_wp2_with fail
  refine (lv_dec H4.out.2.1 (by decide) HI.out.2.2.1 _ zs HI.out.1 (by omega) l1 h1).mono ?_
  rw [← HX.out]
  rintro e w5 ⟨x5, v5, rfl, hr5, hd5, hf5, hm5⟩
  have hk5 := Lv.past H4.out.1 H4.out.2.1 hd5 H4.out.2.2.1 hm5
  have hx5 := (hd5.2.1.block _ (Array.getElem?_eq_some_iff.1 HI.out.2.2.2.2).1).trans HI.out.2.2.2.2
  have H5 : Hid (Lv 200 W0 D T v4 X.1.most X.1.fs w5 ∧ Lv 200 W0 D' T' v5 X.1.most X.1.fs w5 ∧ RowF w5 0 x4 (tellB l0 X) ∧ RowF w5 0 x5 (tellB l1 X)) :=
    ⟨hk5, hd5, H4.out.2.2.2.1.past H4.out.2.1.1.tab H4.out.2.2.2.2 hm5, hr5.mono (Nat.zero_le _)⟩
  clear y0 y1
  clear hr5 hd5 hf5 hm5 hk5 hx5 H4
  go_wp2_with fail
  refine (ds_table H5.out.1.1 (by decide)).mono ?_
  rintro e w6 ⟨t6, rfl, hr6, hb6⟩
  have H6 : Hid (RowF w6 0 t6 X.1.fs ∧ Lv 200 W0 D T v4 X.1.most X.1.fs w6 ∧ Lv 200 W0 D' T' v5 X.1.most X.1.fs w6 ∧ RowF w6 0 x4 (tellB l0 X) ∧ RowF w6 0 x5 (tellB l1 X)) :=
    ⟨hr6.mono (Nat.zero_le _), H5.out.1.grown hb6, H5.out.2.1.grown hb6, H5.out.2.2.1.below hb6, H5.out.2.2.2.below hb6⟩
  clear hr6 hb6 H5
  go_wp2_with fail
  refine (ds_table H6.out.2.2.1.1 (by decide)).mono ?_
  rintro e w7 ⟨t7, rfl, hr7, hb7⟩
  have H7 : Hid (RowF w7 0 t7 X.1.fs ∧ RowF w7 0 t6 X.1.fs ∧ Lv 200 W0 D T v4 X.1.most X.1.fs w7 ∧ Lv 200 W0 D' T' v5 X.1.most X.1.fs w7 ∧ RowF w7 0 x4 (tellB l0 X) ∧ RowF w7 0 x5 (tellB l1 X)) :=
    ⟨hr7.mono (Nat.zero_le _), H6.out.1.below hb7, H6.out.2.1.grown hb7, H6.out.2.2.1.grown hb7, H6.out.2.2.2.1.below hb7, H6.out.2.2.2.2.below hb7⟩
  clear hr7 hb7 H6
  go_wp2_with fail
  refine (refFields_any _ _ X.1.fs X.1.fs w7 H7.out.2.1.toSl H7.out.1.toSl).mono ?_
  rintro e w8 ⟨rfl, n8, hw8⟩
  have hb8 : Below w7.heap.size w7 w8 := by rw [hw8]; exact below_drewN (Below.refl _ _) n8
  rw [decide_eq_true rfl]
  have H8 : Hid (Lv 200 W0 D T v4 X.1.most X.1.fs w8 ∧ Lv 200 W0 D' T' v5 X.1.most X.1.fs w8 ∧ RowF w8 0 x4 (tellB l0 X) ∧ RowF w8 0 x5 (tellB l1 X)) :=
    ⟨H7.out.2.2.1.grown hb8, H7.out.2.2.2.1.grown hb8, H7.out.2.2.2.2.1.below hb8, H7.out.2.2.2.2.2.below hb8⟩
  clear hb8 hw8 H7
  go_wp2_with fail
  refine (refFields_any _ _ (tellB l0 X) (tellB l1 X) w8 H8.out.2.2.1.toSl H8.out.2.2.2.toSl).mono ?_
  rintro e w9 ⟨rfl, n9, hw9⟩
  have hb9 : Below w8.heap.size w8 w9 := by rw [hw9]; exact below_drewN (Below.refl _ _) n9
  have H9 : Hid (Lv 200 W0 D T v4 X.1.most X.1.fs w9 ∧ Lv 200 W0 D' T' v5 X.1.most X.1.fs w9) := ⟨H8.out.1.grown hb9, H8.out.2.1.grown hb9⟩
  obtain ⟨ax, cx, ex⟩ := H8.out.2.2.1.shape
  obtain ⟨ay, cy, ey⟩ := H8.out.2.2.2.shape
  subst ex; subst ey
  clear hb9 hw9 H8
  have hx9 := (H9.out.1.2.1.block _ (Array.getElem?_eq_some_iff.1 HI.out.2.2.2.2).1).trans HI.out.2.2.2.2
  have y0 := blk_cell (j := 0) hx9 rfl
  have y1 := blk_cell (j := 1) hx9 rfl
  clear hx9
  have HS1 := Lib.hid (ds_size H9.out.1.1)
  have HS2 := Lib.hid (ds_size H9.out.2.1)
  obtain ⟨S, hS⟩ : ∃ S, S = sumF X.1.fs := ⟨_, rfl⟩
  rw [← hS] at HS1 HS2
  clear hS
  have HAL := Lib.hid (alive09 w9 (HI.out.2.2.1.below H9.out.1.2.1))
  rcases two_limits l0 l1 X with ⟨e1, e2, e3, e4, e5⟩ | ⟨e1, e2, e3, e4⟩ | ⟨e1, e2, e3, e4⟩ | ⟨e1, e2, e3, e4⟩ | ⟨e1, e2, e3⟩
  · rw [e1, e2, e3, e4, e5]
    rw [decide_eq_true rfl]
    simp only [List.length_nil]
    go_wp2_with fail
    refine (HS1.out).mono ?_
    rintro e w' ⟨rfl, hw'⟩
    rw [hw']
    clear hw'
    go_wp2_with fail
    refine (HS2.out).mono ?_
    rintro e w' ⟨rfl, hw'⟩
    rw [hw']
    clear hw'
    go_wp2_with fail
    refine (HAL.out).mono ?_
    rintro e w10 ⟨rfl, hb10⟩
    have HB := Lib.hid (HI.out.2.2.2.1.trans ((H9.out.1.2.1.trans (hb10.mono H9.out.1.2.2)).mono HI.out.2.2.2.1.size))
    clear hb10
    go_wp2_with fail
    go_ret
    exact ⟨rfl, HB.out⟩
  · rw [e1, e2, e3, e4]
    rw [decide_eq_true rfl]
    go_wp2_with fail
    refine (HS1.out).mono ?_
    rintro e w' ⟨rfl, hw'⟩
    rw [hw']
    clear hw'
    go_wp2_with fail
    refine (HS2.out).mono ?_
    rintro e w' ⟨rfl, hw'⟩
    rw [hw']
    clear hw'
    go_wp2_with fail
    refine (HAL.out).mono ?_
    rintro e w10 ⟨rfl, hb10⟩
    have HB := Lib.hid (HI.out.2.2.2.1.trans ((H9.out.1.2.1.trans (hb10.mono H9.out.1.2.2)).mono HI.out.2.2.2.1.size))
    clear hb10
    go_wp2_with fail
    go_ret
    exact ⟨rfl, HB.out⟩
  · rw [e1, e2, e3]
    have dl : decide (l1 ≤ l0) = false := decide_eq_false (by omega)
    clear e1 e2 e3 e4
    go_wp2_with fail
    refine (HS1.out).mono ?_
    rintro e w' ⟨rfl, hw'⟩
    rw [hw']
    clear hw'
    go_wp2_with fail
    refine (HS2.out).mono ?_
    rintro e w' ⟨rfl, hw'⟩
    rw [hw']
    clear hw'
    go_wp2_with fail
    refine (HAL.out).mono ?_
    rintro e w10 ⟨rfl, hb10⟩
    have HB := Lib.hid (HI.out.2.2.2.1.trans ((H9.out.1.2.1.trans (hb10.mono H9.out.1.2.2)).mono HI.out.2.2.2.1.size))
    clear hb10
    go_wp2_with fail
    go_ret
    exact ⟨rfl, HB.out⟩
  · rw [e1, e2, e3]
    have dl : decide (l0 ≤ l1) = false := decide_eq_false (by omega)
    clear e1 e2 e3 e4
    go_wp2_with fail
    refine (HS1.out).mono ?_
    rintro e w' ⟨rfl, hw'⟩
    rw [hw']
    clear hw'
    go_wp2_with fail
    refine (HS2.out).mono ?_
    rintro e w' ⟨rfl, hw'⟩
    rw [hw']
    clear hw'
    go_wp2_with fail
    refine (HAL.out).mono ?_
    rintro e w10 ⟨rfl, hb10⟩
    have HB := Lib.hid (HI.out.2.2.2.1.trans ((H9.out.1.2.1.trans (hb10.mono H9.out.1.2.2)).mono HI.out.2.2.2.1.size))
    clear hb10
    go_wp2_with fail
    go_ret
    exact ⟨rfl, HB.out⟩
  · rw [e1, e2, e3]
    go_wp2_with fail
    refine (HS1.out).mono ?_
    rintro e w' ⟨rfl, hw'⟩
    rw [hw']
    clear hw'
    go_wp2_with fail
    refine (HS2.out).mono ?_
    rintro e w' ⟨rfl, hw'⟩
    rw [hw']
    clear hw'
    go_wp2_with fail
    refine (HAL.out).mono ?_
    rintro e w10 ⟨rfl, hb10⟩
    have HB := Lib.hid (HI.out.2.2.2.1.trans ((H9.out.1.2.1.trans (hb10.mono H9.out.1.2.2)).mono HI.out.2.2.2.1.size))
    clear hb10
    go_wp2_with fail
    go_ret
    exact ⟨rfl, HB.out⟩
set_option maxHeartbeats 1000000 in
/-- **BlockLimits** -/
theorem limits09_any (u u2 : Value) (zs ys : List Int) (l0 l1 : Int) (w : World) (hs : Sl .u8 w u zs) (hs2 : Sl .u8 w u2 ys) (h0 : l0 ≤ 9223372036854775807) (h1 : l1 ≤ 9223372036854775807) (hT : ShT w) :
    Calls Tryd.prog 5 #[u, u2, .agg #[.int .i64 l0, .int .i64 l1]] w fun e w' => e = .returned (.bool true) ∧ Below w.heap.size w w' := by
  by_cases hz : zs.length ≤ 300
  · by_cases hy : ys.length ≤ 300
    · exact limits09 u u2 zs ys l0 l1 w hs hs2 h0 h1 hz hy hT
    · obtain ⟨a, c, hu, _⟩ := hs
      obtain ⟨a2, c2, hu2, hy1, hy2, _⟩ := hs2
      subst hu; subst hu2
      unfold maxLen at hy2
      have hBx : Below w.heap.size w (w.alloc (.cells #[.int .i64 l0, .int .i64 l1] 51)) := (Below.refl _ _).alloc (Nat.le_refl _) _
      have HAL := Lib.hid (And.intro (alive09 _ (hT.below hBx)) hBx)
      clear hT hBx
      obtain ⟨N, hN⟩ : ∃ N, N = zs.length := ⟨_, rfl⟩
      obtain ⟨N2, hN2⟩ : ∃ N2, N2 = ys.length := ⟨_, rfl⟩
      rw [← hN] at hz ⊢
      rw [← hN2] at hy hy1 ⊢
      clear hN hN2
      have d0 : decide ((300 : Int) < (N : Int)) = false := decide_eq_false (by omega)
      have d0b : decide (300 < N) = false := decide_eq_false (by omega)
      have d1 : decide ((300 : Int) < (N2 : Int)) = true := decide_eq_true (by omega)
      have d1b : decide (300 < N2) = true := decide_eq_true (by omega)
      clear hz hy
      go_enter Tryd.func5, Tryd.ntmps5
      go_wp2_with fail
      refine (HAL.out.1).mono ?_
      rintro e w10 ⟨rfl, hb10⟩
      have HB := Lib.hid (HAL.out.2.trans (hb10.mono HAL.out.2.size))
      clear hb10
      go_wp2_with fail
      go_ret
      exact ⟨rfl, HB.out⟩
  · obtain ⟨a, c, hu, hz1, hz2, _⟩ := hs
    obtain ⟨a2, c2, hu2, _⟩ := hs2
    subst hu; subst hu2
    unfold maxLen at hz2
    have hBx : Below w.heap.size w (w.alloc (.cells #[.int .i64 l0, .int .i64 l1] 51)) := (Below.refl _ _).alloc (Nat.le_refl _) _
    have HAL := Lib.hid (And.intro (alive09 _ (hT.below hBx)) hBx)
    clear hT hBx
    obtain ⟨N, hN⟩ : ∃ N, N = zs.length := ⟨_, rfl⟩
    rw [← hN] at hz hz1 ⊢
    clear hN
    have d0 : decide ((300 : Int) < (N : Int)) = true := decide_eq_true (by omega)
    have d0b : decide (300 < N) = true := decide_eq_true (by omega)
    clear hz
    go_enter Tryd.func5, Tryd.ntmps5
    go_wp2_with fail
    refine (HAL.out.1).mono ?_
    rintro e w10 ⟨rfl, hb10⟩
    have HB := Lib.hid (HAL.out.2.trans (hb10.mono HAL.out.2.size))
    clear hb10
    go_wp2_with fail
    go_ret
    exact ⟨rfl, HB.out⟩
end Go.Proofs.YtenapfpkegoonaaDoor

/-
  A region that draws its order and only reads, and calls what makes memory: its operations one by one, in a class of worlds. No program is named here.
-/
namespace Go.Proofs.YtenapfpkegoonaaDoor
open Go.RowKit

/-- one operation: what it leaves of a class of worlds -/
theorem quiet_take {P : Program} {ops : Array Oper} {C : World → Prop} {Q : Act → Prop} {o : Oper} {rest : List Oper} {a : Act} (v : Value) (hw : Region.wanted o (yielded ops a.tmps) = true) (h : ∀ w, C w → o.quietAt P a C w v) (hr : wpQuiet P ops C Q rest (a.put o.dst v)) : wpQuiet P ops C Q (o :: rest) a :=
  wpQuiet_step fun K hK => by rw [if_pos hw]; exact ⟨v, h, hK _ hr⟩
theorem quiet_pure {P : Program} {C : World → Prop} {o : Oper} {a : Act} {v : Value} (h : ∀ w, (execOp a.eval o).run P w = .ok (.value v) w) : ∀ w, C w → o.quietAt P a C w v := fun w _ => by
  unfold Oper.quietAt; rw [h w]; exact ⟨rfl, rfl⟩
theorem quiet_call {P : Program} {C : World → Prop} {o : Oper} {a : Act} {v : Value} (f : FuncId) (xs : Array Operand) (ts : Array TypeId) (ho : o.op = .call { callee := .value (.func f), args := xs, argTypes := ts })
    (vals : List Value) (hx : xs.toList.map a.eval = vals) (he : ∀ args w, (callFunc f args).run P w = .ok (.enter f args) w) (h : ∀ w, C w → Calls P f vals.toArray w fun e w'' => e = .returned v ∧ C w'') : ∀ w, C w → o.quietAt P a C w v := fun w hw => by
  have hx' : xs.map a.eval = vals.toArray := by rw [← hx, ← Array.toList_map, Array.toArray_toList]
  have h' := h w hw
  rw [← hx'] at h'
  unfold Oper.quietAt execOp
  simp [ho, resolve, invoke, go_sem, he, Oper.quietUpon]
  exact h'

theorem quiet_is {P : Program} {C : World → Prop} {o : Oper} {a : Act} {v : Value} (h : ∀ w, C w → (execOp a.eval o).run P w = .ok (.value v) w) : ∀ w, C w → o.quietAt P a C w v := fun w hw => by
  unfold Oper.quietAt; rw [h w hw]; exact ⟨rfl, rfl⟩
end Go.Proofs.YtenapfpkegoonaaDoor

/-
  Layer 9's statements: blocks, one behind the other.
-/
namespace Go.Proofs.YtenapfpkegoonaaDoor
set_option maxRecDepth 20000
open Go.RowKit

theorem sliceRd : Tryd.prog.underlying 22 = some (.slice 32) := by kernel_rfl
theorem quiet_is9 {P : Program} {C : World → Prop} {o : Oper} {a : Act} {v : Value} (h : ∀ w, C w → (execOp a.eval o).run P w = .ok (.value v) w) : ∀ w, C w → o.quietAt P a C w v := fun w hw => by
  unfold Oper.quietAt; rw [h w hw]; exact ⟨rfl, rfl⟩
theorem Rt.low {b : Int} {B B' R : Nat} {v : Value} {most : Int} {fs : List Fd} {W : World} (h : Rt b B R v most fs W) (hB : B' ≤ B) : Rt b B' R v most fs W := ⟨⟨Nat.le_trans hB h.tab.1, h.tab.2.1, h.tab.2.2.mono hB⟩, h.m0, h.mb, h.sum⟩
/-- the program's decoder, and the reference's table, with the same fields -/
def Plays9 (b : Int) (w : World) (D T R : Nat) (vd vr : Value) (most : Int) (fs : List Fd) (W : World) : Prop :=
  Lv b w D T vd most fs W ∧ Rt b w.heap.size R vr most fs W ∧ ∀ g, vd.ownBlock = some g → vr.ownBlock ≠ some g
theorem Plays9.grown {b : Int} {w W W' : World} {D T R : Nat} {vd vr : Value} {most : Int} {fs : List Fd} (h : Plays9 b w D T R vd vr most fs W) (hb : Below W.heap.size W W') : Plays9 b w D T R vd vr most fs W' := ⟨h.1.grown hb, h.2.1.below hb, h.2.2⟩
/-- what lies there is turned by nothing that turns blocks from its size on -/
theorem Plays9.kept {b : Int} {w W W' : World} {D T R : Nat} {vd vr : Value} {most : Int} {fs : List Fd} (h : Plays9 b w D T R vd vr most fs W) (hb : Below W.heap.size W W') : Plays9 b w D T R vd vr most fs W' := h.grown hb
/-- a clone -/
def Cl9 (bd : Int) (B : Nat) (most : Int) (fs : List Fd) (v : Value) (w : World) : Prop := ∃ (D1 T1 : Nat) (v1 : Value), v = .pointer (some ⟨D1, 0, none⟩) ∧ Ds bd B D1 T1 v1 most fs w
def PsiD (w wr : World) (bd lim : Int) (D T : Nat) (vd : Value) (X : Rs × Bool) (u : Value) (w' : World) : Prop := ∃ lv vd', u = .tuple #[lv, .bool (tellC lim X), .int .i64 (tellE X)] ∧ RowF w' wr.heap.size lv (tellB lim X) ∧ Ds bd w.heap.size D T vd' X.1.most X.1.fs w' ∧ From wr vd vd'
def PsiR (w wr : World) (bd lim : Int) (R : Nat) (vr : Value) (X : Rs × Bool) (u : Value) (w' : World) : Prop := ∃ lv vr', u = .tuple #[lv, .bool (tellC lim X), .int .i64 (tellE X)] ∧ RowF w' wr.heap.size lv (tellB lim X) ∧ Rt bd w.heap.size R vr' X.1.most X.1.fs w' ∧ From wr vr vr'
def PsiT (wr : World) (lim : Int) (X : Rs × Bool) (u : Value) (w' : World) : Prop := ∃ lv, u = .tuple #[lv, .bool (tellC lim X), .int .i64 (tellE X)] ∧ RowF w' wr.heap.size lv (tellB lim X)
theorem weak_dec {w wr w' : World} {bd lim : Int} {D T : Nat} {vd : Value} {X : Rs × Bool} {u : Value} (h : PsiD w wr bd lim D T vd X u w') : PsiT wr lim X u w' := by
  obtain ⟨lv, _, e, hr, _⟩ := h
  exact ⟨lv, e, hr⟩
theorem weak_ref {w wr w' : World} {bd lim : Int} {R : Nat} {vr : Value} {X : Rs × Bool} {u : Value} (h : PsiR w wr bd lim R vr X u w') : PsiT wr lim X u w' := by
  obtain ⟨lv, _, e, hr, _⟩ := h
  exact ⟨lv, e, hr⟩
set_option maxHeartbeats 8000000 in
theorem reads09 (bd : Int) (v : Value) (xs : List Rd9) (w : World) (h : SlR w v xs) (hl : xs.length ≤ 20) (hb0 : 0 ≤ bd) (hb4 : bd ≤ 4096) (hT : ShT w) :
    Calls Tryd.prog 3 #[.int .i64 bd, v] w fun e w' => e = .returned (.bool true) ∧ Below w.heap.size w w' := by
  obtain ⟨a, c, hv, hc1, hc2⟩ := h.shape
  subst hv
  unfold maxLen at hc2
  have HAL := Lib.hid (fun (W : World) (hW : Below w.heap.size w W) => alive09 W (hT.below hW))
  have HI := Lib.hid hT
  obtain ⟨N, hN⟩ : ∃ N, N = xs.length := ⟨_, rfl⟩
  rw [← hN] at h hl hc1 ⊢
  have HN := Lib.hid hN
  have HL := Lib.hid h
  have db0 : decide (bd < 0) = false := decide_eq_false (by omega)
  have db4 : decide (4096 < bd) = false := decide_eq_false (by omega)
  clear h hT hN
  go_enter Tryd.func3, Tryd.ntmps3
  go_wp2_with fail
  refine (ds_new bd w hb0 hb4).mono ?_
  rintro e w1 ⟨D, T, vd, rfl, hd, hb⟩
  have H1 : Hid (Lv bd w D T vd bd [] w1) := ⟨hd, hb, hb.size⟩
  clear hd hb
  go_wp2_with fail
  refine (rt_begin bd w1 hb0).mono ?_
  rintro e w2 ⟨R, vr, rfl, hr, hb⟩
  have H2 : Hid (Plays9 bd w D T R vd vr bd [] w2) := ⟨H1.out.grown hb, hr.low H1.out.2.2, fun g hg e => by have := (H1.out.1.lt.2.2 g hg).2; have := (hr.lt.2.2 g e).1; omega⟩
  clear hr hb H1
  go_wp2_with fail
  go_loopg [8] N (fun q s8 wr => ∃ k : Nat, k + q = N ∧ s8 = .int .i64 k ∧ Hid (∃ vd vr most fs, Plays9 bd w D T R vd vr most fs wr))
  case atStart => exact ⟨0, by omega, rfl, vd, vr, bd, [], H2.out⟩
  case round =>
    obtain ⟨k, hkq, rfl, HF⟩ := hrel
    have HKQ := Lib.hid hkq
    have hk : k ≤ N := by omega
    clear hkq H2
    obtain ⟨vd, vr, most, fs, hP⟩ := HF.out
    have HP := Lib.hid hP
    clear hP HF
    by_cases hlt : k < N
    · obtain ⟨x, hx⟩ : ∃ x, xs[k]? = some x := ⟨xs[k]'(by rw [← HN.out]; exact hlt), List.getElem?_eq_getElem (by rw [← HN.out]; exact hlt)⟩
      obtain ⟨bk, off, rfl, hbl, hcell⟩ := HL.out.at_ (i := k) (by rw [← HN.out]; exact hlt)
      obtain ⟨q0, q1⟩ := hcell x hx
      obtain ⟨hs, hlim⟩ := HL.out.1 x (List.mem_of_getElem? hx)
      obtain ⟨uv, zs, lim⟩ := x
      dsimp only at q0 q1 hs hlim
      obtain ⟨au, cu, eu, _⟩ := id hs
      subst eu
      obtain ⟨nz, hnz⟩ : ∃ nz, nz = zs.length := ⟨_, rfl⟩
      rw [← hnz] at q0 hs
      have hnm := hs.len
      rw [← hnz] at hnm
      unfold maxLen at hnm
      have HC := Lib.hid (fun (W : World) (hW : Below w.heap.size w W) => (And.intro ((hW.cell (p := ⟨bk, off + k * 2, none⟩) hbl).trans q0) ((hW.cell (p := ⟨bk, off + k * 2 + 1, none⟩) hbl).trans q1)))
      have hix := run_index_sl (P := Tryd.prog) (t := 22) (s := 2) sliceRd (fun _ => by kernel_rfl) bk off N c k hlt
      have p0 := (HC.out _ HP.out.1.2.1).1
      have HNZ := Lib.hid hnz
      clear hcell hx q0 q1 hnz
      by_cases hz : nz ≤ 300
      · have dz : decide ((300 : Int) < (nz : Int)) = false := decide_eq_false (by omega)
        have dzb : decide (300 < nz) = false := decide_eq_false (by omega)
        have HS : Hid (Sl .u8 w (.slice au nz cu) zs ∧ zs.length ≤ 300 ∧ lim ≤ 9223372036854775807) := ⟨hs, by rw [← HNZ.out]; exact hz, hlim⟩
        obtain ⟨X, hX⟩ : ∃ X, X = readB bd most fs zs := ⟨_, rfl⟩
        have HX := Lib.hid hX
        clear hs hlim hnm hX
        go_wp2_with fail
        refine wp_region_table 12 [67, 68, 69, 70, 71, 72, 73, 74, 75, 76, 77, 78] [[], [(0, 67)], [], [], [(2, 69), (3, 70)], [(4, 71)], [(5, 72)], [], [], [(7, 74), (8, 75)], [(9, 76)], [(10, 77)]]
          (fun i v w' => match i with
            | 0 => v = .pointer (some ⟨D, 0, none⟩)
            | 1 => Cl9 bd wr.heap.size most fs v w'
            | 2 => v = .slice (some ⟨bk, off, none⟩) N c
            | 3 => v = .int .i64 (k : Int)
            | 4 => v = .pointer (some ⟨bk, off + k * 2, none⟩)
            | 5 => v = .pointer (some ⟨bk, off + k * 2, none⟩)
            | 6 => v = .slice au nz cu
            | 7 => v = .slice (some ⟨bk, off, none⟩) N c
            | 8 => v = .int .i64 (k : Int)
            | 9 => v = .pointer (some ⟨bk, off + k * 2, none⟩)
            | 10 => v = .pointer (some ⟨bk, off + k * 2 + 1, none⟩)
            | 11 => v = .int .i64 lim
            | _ => True) (by kernel_rfl) (by kernel_rfl) ?tStab ?tOps ?tRest
        case tStab =>
          intro i v w3 w4 h hb
          match i, h with
          | 0, h | 2, h | 3, h | 4, h | 5, h | 6, h | 7, h | 8, h | 9, h | 10, h | 11, h => exact h
          | 1, h => obtain ⟨D1, T1, v1, e, hd⟩ := h; exact ⟨D1, T1, v1, e, hd.below hb⟩
          | i + 12, _ => trivial
        case tOps =>
          simp only [List.take_succ_cons, List.take_zero, opsOk]
          refine ⟨?_, ?_, ?_, ?_, ?_, ?_, ?_, ?_, ?_, ?_, ?_, ?_, trivial⟩
          · intro ρ w3 hc hf ho hB hj
            have x0 : ρ (.tmp 5) = .pointer (some ⟨D, 0, none⟩) := ho 5 (by decide)
            simp [gives, go_sem, x0, Below.refl]
          · intro ρ w3 hc hf ho hB hj
            have x0 : ρ (.tmp 67) = .pointer (some ⟨D, 0, none⟩) := hj (0, 67) (by simp)
            simp [gives, go_sem, x0, hf]
            refine (ds_clone (HP.out.1.1.below hB) hb4).mono ?_
            rintro e w4 ⟨D1, T1, v1, rfl, hd1, hb1⟩
            exact ⟨_, rfl, ⟨D1, T1, v1, rfl, hd1.low hB.size⟩, hb1⟩
          · intro ρ w3 hc hf ho hB hj
            have x0 : ρ (.tmp 1) = .slice (some ⟨bk, off, none⟩) N c := ho 1 (by decide)
            simp [gives, go_sem, x0, Below.refl]
          · intro ρ w3 hc hf ho hB hj
            have x0 : ρ (.tmp 8) = .int .i64 (k : Int) := ho 8 (by decide)
            simp [gives, go_sem, x0, Below.refl]
          · intro ρ w3 hc hf ho hB hj
            have x0 : ρ (.tmp 69) = .slice (some ⟨bk, off, none⟩) N c := hj (2, 69) (by simp)
            have x1 : ρ (.tmp 70) = .int .i64 (k : Int) := hj (3, 70) (by simp)
            have cc := hix
            simp [gives, go_sem, x0, x1, cc, Below.refl]
          · intro ρ w3 hc hf ho hB hj
            have x0 : ρ (.tmp 71) = .pointer (some ⟨bk, off + k * 2, none⟩) := hj (4, 71) (by simp)
            simp [gives, go_sem, x0, Below.refl]
          · intro ρ w3 hc hf ho hB hj
            have x0 : ρ (.tmp 72) = .pointer (some ⟨bk, off + k * 2, none⟩) := hj (5, 72) (by simp)
            have cc := (HC.out _ (HP.out.1.2.1.trans (hB.mono HP.out.1.2.2))).1
            simp [gives, go_sem, x0, cc, Below.refl]
          · intro ρ w3 hc hf ho hB hj
            have x0 : ρ (.tmp 1) = .slice (some ⟨bk, off, none⟩) N c := ho 1 (by decide)
            simp [gives, go_sem, x0, Below.refl]
          · intro ρ w3 hc hf ho hB hj
            have x0 : ρ (.tmp 8) = .int .i64 (k : Int) := ho 8 (by decide)
            simp [gives, go_sem, x0, Below.refl]
          · intro ρ w3 hc hf ho hB hj
            have x0 : ρ (.tmp 74) = .slice (some ⟨bk, off, none⟩) N c := hj (7, 74) (by simp)
            have x1 : ρ (.tmp 75) = .int .i64 (k : Int) := hj (8, 75) (by simp)
            have cc := hix
            simp [gives, go_sem, x0, x1, cc, Below.refl]
          · intro ρ w3 hc hf ho hB hj
            have x0 : ρ (.tmp 76) = .pointer (some ⟨bk, off + k * 2, none⟩) := hj (9, 76) (by simp)
            simp [gives, go_sem, x0, Below.refl]
          · intro ρ w3 hc hf ho hB hj
            have x0 : ρ (.tmp 77) = .pointer (some ⟨bk, off + k * 2 + 1, none⟩) := hj (10, 77) (by simp)
            have cc := (HC.out _ (HP.out.1.2.1.trans (hB.mono HP.out.1.2.2))).2
            simp [gives, go_sem, x0, cc, Below.refl]
        case tRest =>
          intro X14 w3 hB14 hX14
          have e0 : X14 0 = .pointer (some ⟨D, 0, none⟩) := hX14 0 (by decide)
          obtain ⟨D1, T1, v1, e1, hd1⟩ := hX14 1 (by decide)
          have e2 : X14 2 = .slice (some ⟨bk, off, none⟩) N c := hX14 2 (by decide)
          have e3 : X14 3 = .int .i64 (k : Int) := hX14 3 (by decide)
          have e4 : X14 4 = .pointer (some ⟨bk, off + k * 2, none⟩) := hX14 4 (by decide)
          have e5 : X14 5 = .pointer (some ⟨bk, off + k * 2, none⟩) := hX14 5 (by decide)
          have e6 : X14 6 = .slice au nz cu := hX14 6 (by decide)
          have e7 : X14 7 = .slice (some ⟨bk, off, none⟩) N c := hX14 7 (by decide)
          have e8 : X14 8 = .int .i64 (k : Int) := hX14 8 (by decide)
          have e9 : X14 9 = .pointer (some ⟨bk, off + k * 2, none⟩) := hX14 9 (by decide)
          have e10 : X14 10 = .pointer (some ⟨bk, off + k * 2 + 1, none⟩) := hX14 10 (by decide)
          have e11 : X14 11 = .int .i64 lim := hX14 11 (by decide)
          simp only [putAll, List.getD_cons_zero, List.getD_cons_succ, Act.put, List.setIfInBounds_toArray, List.set_cons_zero, List.set_cons_succ, List.drop_succ_cons, List.drop_zero]
          rw [e0, e1, e2, e3, e4, e5, e6, e7, e8, e9, e10, e11]
          clear hX14 e0 e1 e2 e3 e4 e5 e6 e7 e8 e9 e10 e11
          have HD1 := Lib.hid (And.intro hd1 hB14)
          clear hd1 hB14 p0
          go_wp2_with fail
          refine (ds_dec HD1.out.1 HD1.out.2.size hb4 (HI.out.below (HP.out.1.2.1.trans (HD1.out.2.mono HP.out.1.2.2))) (by have := HI.out.lt; have := HP.out.1.2.2; omega) _ zs (HS.out.1.below (HP.out.1.2.1.trans (HD1.out.2.mono HP.out.1.2.2))) (by have := HS.out.2.1; omega) (far_below HS.out.1 HP.out.1.2.2 HD1.out.1.lt.1 (fun g hg => (HD1.out.1.lt.2.2 g hg).1)) lim HS.out.2.2).mono ?_
          rintro e w4 ⟨_, _, rfl, _, _, _, hm4, _⟩
          have HP4 := Lib.hid (HP.out.kept (HD1.out.2.trans (hm4.low HD1.out.1.lt.1 (fun g hg => (HD1.out.1.lt.2.2 g hg).1) HD1.out.2.size)))
          clear hm4 HD1 HP
          go_wp2_with fail
          have HLOW := Lib.hid (fun (W : World) (h : Mv T vd w4 W ∨ Below w4.heap.size w4 W) => (show Below w.heap.size w W from by
            rcases h with h | h
            · exact HP4.out.1.2.1.trans (h.low HP4.out.1.1.lt.1 (fun g hg => (HP4.out.1.1.lt.2.2 g hg).1) HP4.out.1.2.2)
            · exact HP4.out.1.2.1.trans (h.mono HP4.out.1.2.2)))
          have HLT := Lib.hid (And.intro HP4.out.1.1.lt.2.1 (fun (g : Nat) (hg : vd.ownBlock = some g) => (HP4.out.1.1.lt.2.2 g hg).2))
          refine Moved.wp_region 16 [81, 82, 83, 84, 85, 86, 87, 88, 89, 90, 91, 92, 80, 93, 94, 95] [[], [], [], [(1, 82), (2, 83)], [(3, 84)], [(4, 85)], [], [], [(6, 87), (7, 88)], [(8, 89)], [(9, 90)], [(0, 81), (5, 86), (10, 91)], [(11, 92)], [(12, 80)], [(12, 80)], [(12, 80)]] [14, 15]
            (fun i u w' => match i with
              | 0 => u = .pointer (some ⟨D, 0, none⟩)
              | 1 => u = .slice (some ⟨bk, off, none⟩) N c
              | 2 => u = .int .i64 (k : Int)
              | 3 => u = .pointer (some ⟨bk, off + k * 2, none⟩)
              | 4 => u = .pointer (some ⟨bk, off + k * 2, none⟩)
              | 5 => u = .slice au nz cu
              | 6 => u = .slice (some ⟨bk, off, none⟩) N c
              | 7 => u = .int .i64 (k : Int)
              | 8 => u = .pointer (some ⟨bk, off + k * 2, none⟩)
              | 9 => u = .pointer (some ⟨bk, off + k * 2 + 1, none⟩)
              | 10 => u = .int .i64 lim
              | 11 => PsiD w w4 bd lim D T vd X u w'
              | 12 => PsiT w4 lim X u w'
              | 13 => RowF w' w4.heap.size u (tellB lim X)
              | 14 => u = .bool (tellC lim X)
              | 15 => u = .int .i64 (tellE X)
              | _ => True) 11 (fun w' => Mv T vd w4 w') (fun w' w'' => Mv T vd w' w'') (by kernel_rfl) (by kernel_rfl) ?tWay ?tOps ?tLate ?tRest
          case tWay =>
            refine ⟨fun w1 h => Mv.of h, fun w1 w2 h hb => h.trans (Mv.of (v := vd) hb) (fun g hg => .inl hg), fun w1 w2 h hb => (Mv.of (v := vd) h).trans hb (fun g hg => .inl hg), ?_, ?_⟩
            · intro i u w5 w6 h hb
              match i, h with
              | 0, h | 1, h | 2, h | 3, h | 4, h | 5, h | 6, h | 7, h | 8, h | 9, h | 10, h | 14, h | 15, h => exact h
              | 11, h => obtain ⟨lv, vd', e, hr, hd, hf⟩ := h; exact ⟨lv, vd', e, hr.below hb, hd.below hb, hf⟩
              | 12, ⟨lv, e, hr⟩ => exact ⟨lv, e, hr.below hb⟩
              | 13, h => exact RowF.below h hb
              | i + 16, _ => trivial
            · intro i u w5 w6 hi h hb hg
              match i, h, hi with
              | 0, h, _ | 1, h, _ | 2, h, _ | 3, h, _ | 4, h, _ | 5, h, _ | 6, h, _ | 7, h, _ | 8, h, _ | 9, h, _ | 10, h, _ | 14, h, _ | 15, h, _ => exact h
              | 11, _, hi => exact absurd rfl hi
              | 12, ⟨lv, e, hr⟩, _ => exact ⟨lv, e, hr.of_block (fun g hgg => hg.block g (hr.lt g hgg).2 (by have := (hr.lt g hgg).1; have := HLT.out.1; omega) (fun e => by have := (hr.lt g hgg).1; have := HLT.out.2 g e; omega))⟩
              | 13, h, _ => exact RowF.of_block h (fun g hgg => hg.block g (RowF.lt h g hgg).2 (by have := (RowF.lt h g hgg).1; have := HLT.out.1; omega) (fun e => by have := (RowF.lt h g hgg).1; have := HLT.out.2 g e; omega))
              | i + 16, _, _ => trivial
          case tLate =>
            intro i hi _ o ho
            simp only [List.mem_cons, List.not_mem_nil, or_false] at hi
            rcases hi with rfl | rfl
            all_goals
              obtain rfl := Option.some.inj ho
              refine ⟨by decide, ?_⟩
              intro ρ w3 hc _ _ hj
              obtain ⟨lv, x0, hr⟩ := hj (12, 80) (by simp)
              dsimp only at x0
              exact ⟨_, fun w9 => by simp [go_sem, x0], rfl⟩
          case tOps =>
            simp only [List.take_succ_cons, List.take_zero, Moved.opsOk, Nat.zero_add, Nat.reduceAdd, Nat.reduceEqDiff, reduceCtorEq, reduceIte]
            refine ⟨?_, ?_, ?_, ?_, ?_, ?_, ?_, ?_, ?_, ?_, ?_, ?_, ?_, ?_, ?_, ?_, trivial⟩
            · intro ρ w5 hc hff ho hB2 hj
              have x0 : ρ (.tmp 5) = .pointer (some ⟨D, 0, none⟩) := ho 5 (by decide)
              simp [gives, go_sem, x0, Moved.Grow, Below.refl]
            · intro ρ w5 hc hff ho hB2 hj
              have x0 : ρ (.tmp 1) = .slice (some ⟨bk, off, none⟩) N c := ho 1 (by decide)
              simp [gives, go_sem, x0, Moved.Grow, Below.refl]
            · intro ρ w5 hc hff ho hB2 hj
              have x0 : ρ (.tmp 8) = .int .i64 (k : Int) := ho 8 (by decide)
              simp [gives, go_sem, x0, Moved.Grow, Below.refl]
            · intro ρ w5 hc hff ho hB2 hj
              have x0 : ρ (.tmp 82) = .slice (some ⟨bk, off, none⟩) N c := hj (1, 82) (by simp)
              have x1 : ρ (.tmp 83) = .int .i64 (k : Int) := hj (2, 83) (by simp)
              have cc := hix
              simp [gives, go_sem, x0, x1, cc, Moved.Grow, Below.refl]
            · intro ρ w5 hc hff ho hB2 hj
              have x0 : ρ (.tmp 84) = .pointer (some ⟨bk, off + k * 2, none⟩) := hj (3, 84) (by simp)
              simp [gives, go_sem, x0, Moved.Grow, Below.refl]
            · intro ρ w5 hc hff ho hB2 hj
              have x0 : ρ (.tmp 85) = .pointer (some ⟨bk, off + k * 2, none⟩) := hj (4, 85) (by simp)
              have cc := (HC.out _ (HLOW.out _ (.inl hB2))).1
              simp [gives, go_sem, x0, cc, Moved.Grow, Below.refl]
            · intro ρ w5 hc hff ho hB2 hj
              have x0 : ρ (.tmp 1) = .slice (some ⟨bk, off, none⟩) N c := ho 1 (by decide)
              simp [gives, go_sem, x0, Moved.Grow, Below.refl]
            · intro ρ w5 hc hff ho hB2 hj
              have x0 : ρ (.tmp 8) = .int .i64 (k : Int) := ho 8 (by decide)
              simp [gives, go_sem, x0, Moved.Grow, Below.refl]
            · intro ρ w5 hc hff ho hB2 hj
              have x0 : ρ (.tmp 87) = .slice (some ⟨bk, off, none⟩) N c := hj (6, 87) (by simp)
              have x1 : ρ (.tmp 88) = .int .i64 (k : Int) := hj (7, 88) (by simp)
              have cc := hix
              simp [gives, go_sem, x0, x1, cc, Moved.Grow, Below.refl]
            · intro ρ w5 hc hff ho hB2 hj
              have x0 : ρ (.tmp 89) = .pointer (some ⟨bk, off + k * 2, none⟩) := hj (8, 89) (by simp)
              simp [gives, go_sem, x0, Moved.Grow, Below.refl]
            · intro ρ w5 hc hff ho hB2 hj
              have x0 : ρ (.tmp 90) = .pointer (some ⟨bk, off + k * 2 + 1, none⟩) := hj (9, 90) (by simp)
              have cc := (HC.out _ (HLOW.out _ (.inl hB2))).2
              simp [gives, go_sem, x0, cc, Moved.Grow, Below.refl]
            · intro ρ w5 hc hff ho hB2 hj
              have x0 : ρ (.tmp 81) = .pointer (some ⟨D, 0, none⟩) := hj (0, 81) (by simp)
              have x1 : ρ (.tmp 86) = .slice au nz cu := hj (5, 86) (by simp)
              have x2 : ρ (.tmp 91) = .int .i64 lim := hj (10, 91) (by simp)
              simp [gives, go_sem, x0, x1, x2, hff]
              refine (lv_dec (HP4.out.1.grown hB2) hb4 HI.out _ zs HS.out.1 (by have := HS.out.2; omega) lim HS.out.2.2).mono ?_
              rw [← HX.out]
              rintro e w6 ⟨lv, vd', rfl, hr, hd, hf, hm⟩
              exact ⟨_, rfl, ⟨lv, vd', rfl, hr.mono hB2.size, hd.1, fun g hg => (hf g hg).imp_right (fun h => Nat.le_trans hB2.size h)⟩, hm⟩
            · intro ρ w5 hc hff ho hB2 hj
              have hjj := hj (11, 92) (by simp)
              obtain ⟨lv, x0, hr⟩ := weak_dec hjj
              dsimp only at x0
              simp [gives, go_sem, x0, Moved.Grow, Below.refl]
              exact ⟨lv, rfl, hr⟩
            · intro ρ w5 hc hff ho hB2 hj
              obtain ⟨lv, x0, hr⟩ := hj (12, 80) (by simp)
              dsimp only at x0
              simp [gives, go_sem, x0, Moved.Grow, Below.refl]
              exact hr
            · intro ρ w5 hc hff ho hB2 hj
              obtain ⟨lv, x0, hr⟩ := hj (12, 80) (by simp)
              dsimp only at x0
              simp [gives, go_sem, x0, Moved.Grow, Below.refl]
            · intro ρ w5 hc hff ho hB2 hj
              obtain ⟨lv, x0, hr⟩ := hj (12, 80) (by simp)
              dsimp only at x0
              simp [gives, go_sem, x0, Moved.Grow, Below.refl]
          case tRest =>
            intro x15 wq hG hx15
            have e0 : x15 0 = .pointer (some ⟨D, 0, none⟩) := hx15 0 (by decide)
            have e1 : x15 1 = .slice (some ⟨bk, off, none⟩) N c := hx15 1 (by decide)
            have e2 : x15 2 = .int .i64 (k : Int) := hx15 2 (by decide)
            have e3 : x15 3 = .pointer (some ⟨bk, off + k * 2, none⟩) := hx15 3 (by decide)
            have e4 : x15 4 = .pointer (some ⟨bk, off + k * 2, none⟩) := hx15 4 (by decide)
            have e5 : x15 5 = .slice au nz cu := hx15 5 (by decide)
            have e6 : x15 6 = .slice (some ⟨bk, off, none⟩) N c := hx15 6 (by decide)
            have e7 : x15 7 = .int .i64 (k : Int) := hx15 7 (by decide)
            have e8 : x15 8 = .pointer (some ⟨bk, off + k * 2, none⟩) := hx15 8 (by decide)
            have e9 : x15 9 = .pointer (some ⟨bk, off + k * 2 + 1, none⟩) := hx15 9 (by decide)
            have e10 : x15 10 = .int .i64 lim := hx15 10 (by decide)
            obtain ⟨lv, vd', e11, _, hd5, hf5⟩ := hx15 11 (by decide)
            obtain ⟨lv2, e12, _⟩ := hx15 12 (by decide)
            have hr5 : RowF wq w4.heap.size (x15 13) (tellB lim X) := hx15 13 (by decide)
            have e14 : x15 14 = .bool (tellC lim X) := hx15 14 (by decide)
            have e15 : x15 15 = .int .i64 (tellE X) := hx15 15 (by decide)
            obtain ⟨av, hav⟩ : ∃ av, x15 13 = av := ⟨_, rfl⟩
            rw [hav] at hr5
            simp only [putAll, List.getD_cons_zero, List.getD_cons_succ, Act.put, List.setIfInBounds_toArray, List.set_cons_zero, List.set_cons_succ, List.drop_succ_cons, List.drop_zero]
            rw [e0, e1, e2, e3, e4, e5, e6, e7, e8, e9, e10, e11, e12, hav, e14, e15]
            clear hx15 e0 e1 e2 e3 e4 e5 e6 e7 e8 e9 e10 e11 e12 hav e14 e15
            have HQ : Hid (Lv bd w D T vd' X.1.most X.1.fs wq ∧ Rt bd w.heap.size R vr most fs wq ∧ (∀ g, vd'.ownBlock = some g → vr.ownBlock ≠ some g) ∧ RowF wq 0 av (tellB lim X) ∧ ∀ g, av.ownBlock = some g → vr.ownBlock ≠ some g) :=
              ⟨HP4.out.1.moved hd5 hG, HP4.out.2.1.past HP4.out.1.1.tab (fun g hg e => HP4.out.2.2 g e hg) hG, fun g hg e => by
                rcases hf5 g hg with h | h
                · exact HP4.out.2.2 g h e
                · have := (HP4.out.2.1.lt.2.2 g e).2; omega, hr5.mono (Nat.zero_le _), fun g hg e => by have := (hr5.lt g hg).1; have := (HP4.out.2.1.lt.2.2 g e).2; omega⟩
            obtain ⟨aa, ca, ea⟩ := hr5.shape
            obtain ⟨na, hna⟩ : ∃ na, na = (tellB lim X).length := ⟨_, rfl⟩
            rw [← hna] at ea
            subst ea
            clear hd5 hf5 hr5 hG hna HLOW HLT
            obtain ⟨C, hC⟩ : ∃ C, C = tellC lim X := ⟨_, rfl⟩
            obtain ⟨E, hE⟩ : ∃ E, E = tellE X := ⟨_, rfl⟩
            have HCE := Lib.hid (And.intro hC hE)
            rw [← hC, ← hE]
            clear hC hE
            go_wp2
            refine Calm.intro ?_
            go_wp2_with fail
            have HLOW2 := Lib.hid (fun (W : World) (h : Mv R vr wq W ∨ Below wq.heap.size wq W) => (show Below w.heap.size w W from by
              rcases h with h | h
              · exact HQ.out.1.2.1.trans (h.low HQ.out.2.1.lt.1 (fun g hg => (HQ.out.2.1.lt.2.2 g hg).1) HQ.out.1.2.2)
              · exact HQ.out.1.2.1.trans (h.mono HQ.out.1.2.2)))
            have HLT2 := Lib.hid (And.intro HQ.out.2.1.lt.2.1 (fun (g : Nat) (hg : vr.ownBlock = some g) => (HQ.out.2.1.lt.2.2 g hg).2))
            refine Moved.wp_region 16 [97, 98, 99, 100, 101, 102, 103, 104, 105, 106, 107, 108, 96, 109, 110, 111] [[], [], [], [(1, 98), (2, 99)], [(3, 100)], [(4, 101)], [], [], [(6, 103), (7, 104)], [(8, 105)], [(9, 106)], [(0, 97), (5, 102), (10, 107)], [(11, 108)], [(12, 96)], [(12, 96)], [(12, 96)]] [14, 15]
              (fun i u w' => match i with
                | 0 => u = .pointer (some ⟨R, 0, none⟩)
                | 1 => u = .slice (some ⟨bk, off, none⟩) N c
                | 2 => u = .int .i64 (k : Int)
                | 3 => u = .pointer (some ⟨bk, off + k * 2, none⟩)
                | 4 => u = .pointer (some ⟨bk, off + k * 2, none⟩)
                | 5 => u = .slice au nz cu
                | 6 => u = .slice (some ⟨bk, off, none⟩) N c
                | 7 => u = .int .i64 (k : Int)
                | 8 => u = .pointer (some ⟨bk, off + k * 2, none⟩)
                | 9 => u = .pointer (some ⟨bk, off + k * 2 + 1, none⟩)
                | 10 => u = .int .i64 lim
                | 11 => PsiR w wq bd lim R vr X u w'
                | 12 => PsiT wq lim X u w'
                | 13 => RowF w' wq.heap.size u (tellB lim X)
                | 14 => u = .bool (tellC lim X)
                | 15 => u = .int .i64 (tellE X)
                | _ => True) 11 (fun w' => Mv R vr wq w') (fun w' w'' => Mv R vr w' w'') (by kernel_rfl) (by kernel_rfl) ?tWay ?tOps ?tLate ?tRest
            case tWay =>
              refine ⟨fun w1 h => Mv.of h, fun w1 w2 h hb => h.trans (Mv.of (v := vr) hb) (fun g hg => .inl hg), fun w1 w2 h hb => (Mv.of (v := vr) h).trans hb (fun g hg => .inl hg), ?_, ?_⟩
              · intro i u w5 w6 h hb
                match i, h with
                | 0, h | 1, h | 2, h | 3, h | 4, h | 5, h | 6, h | 7, h | 8, h | 9, h | 10, h | 14, h | 15, h => exact h
                | 11, h => obtain ⟨lv, vr', e, hr, hd, hf⟩ := h; exact ⟨lv, vr', e, hr.below hb, hd.below hb, hf⟩
                | 12, ⟨lv, e, hr⟩ => exact ⟨lv, e, hr.below hb⟩
                | 13, h => exact RowF.below h hb
                | i + 16, _ => trivial
              · intro i u w5 w6 hi h hb hg
                match i, h, hi with
                | 0, h, _ | 1, h, _ | 2, h, _ | 3, h, _ | 4, h, _ | 5, h, _ | 6, h, _ | 7, h, _ | 8, h, _ | 9, h, _ | 10, h, _ | 14, h, _ | 15, h, _ => exact h
                | 11, _, hi => exact absurd rfl hi
                | 12, ⟨lv, e, hr⟩, _ => exact ⟨lv, e, hr.of_block (fun g hgg => hg.block g (hr.lt g hgg).2 (by have := (hr.lt g hgg).1; have := HLT2.out.1; omega) (fun e => by have := (hr.lt g hgg).1; have := HLT2.out.2 g e; omega))⟩
                | 13, h, _ => exact RowF.of_block h (fun g hgg => hg.block g (RowF.lt h g hgg).2 (by have := (RowF.lt h g hgg).1; have := HLT2.out.1; omega) (fun e => by have := (RowF.lt h g hgg).1; have := HLT2.out.2 g e; omega))
                | i + 16, _, _ => trivial
            case tLate =>
              intro i hi _ o ho
              simp only [List.mem_cons, List.not_mem_nil, or_false] at hi
              rcases hi with rfl | rfl
              all_goals
                obtain rfl := Option.some.inj ho
                refine ⟨by decide, ?_⟩
                intro ρ w3 hc _ _ hj
                obtain ⟨lv, x0, hr⟩ := hj (12, 96) (by simp)
                dsimp only at x0
                exact ⟨_, fun w9 => by simp [go_sem, x0], rfl⟩
            case tOps =>
              simp only [List.take_succ_cons, List.take_zero, Moved.opsOk, Nat.zero_add, Nat.reduceAdd, Nat.reduceEqDiff, reduceCtorEq, reduceIte]
              refine ⟨?_, ?_, ?_, ?_, ?_, ?_, ?_, ?_, ?_, ?_, ?_, ?_, ?_, ?_, ?_, ?_, trivial⟩
              · intro ρ w5 hc hff ho hB2 hj
                have x0 : ρ (.tmp 7) = .pointer (some ⟨R, 0, none⟩) := ho 7 (by decide)
                simp [gives, go_sem, x0, Moved.Grow, Below.refl]
              · intro ρ w5 hc hff ho hB2 hj
                have x0 : ρ (.tmp 1) = .slice (some ⟨bk, off, none⟩) N c := ho 1 (by decide)
                simp [gives, go_sem, x0, Moved.Grow, Below.refl]
              · intro ρ w5 hc hff ho hB2 hj
                have x0 : ρ (.tmp 8) = .int .i64 (k : Int) := ho 8 (by decide)
                simp [gives, go_sem, x0, Moved.Grow, Below.refl]
              · intro ρ w5 hc hff ho hB2 hj
                have x0 : ρ (.tmp 98) = .slice (some ⟨bk, off, none⟩) N c := hj (1, 98) (by simp)
                have x1 : ρ (.tmp 99) = .int .i64 (k : Int) := hj (2, 99) (by simp)
                have cc := hix
                simp [gives, go_sem, x0, x1, cc, Moved.Grow, Below.refl]
              · intro ρ w5 hc hff ho hB2 hj
                have x0 : ρ (.tmp 100) = .pointer (some ⟨bk, off + k * 2, none⟩) := hj (3, 100) (by simp)
                simp [gives, go_sem, x0, Moved.Grow, Below.refl]
              · intro ρ w5 hc hff ho hB2 hj
                have x0 : ρ (.tmp 101) = .pointer (some ⟨bk, off + k * 2, none⟩) := hj (4, 101) (by simp)
                have cc := (HC.out _ (HLOW2.out _ (.inl hB2))).1
                simp [gives, go_sem, x0, cc, Moved.Grow, Below.refl]
              · intro ρ w5 hc hff ho hB2 hj
                have x0 : ρ (.tmp 1) = .slice (some ⟨bk, off, none⟩) N c := ho 1 (by decide)
                simp [gives, go_sem, x0, Moved.Grow, Below.refl]
              · intro ρ w5 hc hff ho hB2 hj
                have x0 : ρ (.tmp 8) = .int .i64 (k : Int) := ho 8 (by decide)
                simp [gives, go_sem, x0, Moved.Grow, Below.refl]
              · intro ρ w5 hc hff ho hB2 hj
                have x0 : ρ (.tmp 103) = .slice (some ⟨bk, off, none⟩) N c := hj (6, 103) (by simp)
                have x1 : ρ (.tmp 104) = .int .i64 (k : Int) := hj (7, 104) (by simp)
                have cc := hix
                simp [gives, go_sem, x0, x1, cc, Moved.Grow, Below.refl]
              · intro ρ w5 hc hff ho hB2 hj
                have x0 : ρ (.tmp 105) = .pointer (some ⟨bk, off + k * 2, none⟩) := hj (8, 105) (by simp)
                simp [gives, go_sem, x0, Moved.Grow, Below.refl]
              · intro ρ w5 hc hff ho hB2 hj
                have x0 : ρ (.tmp 106) = .pointer (some ⟨bk, off + k * 2 + 1, none⟩) := hj (9, 106) (by simp)
                have cc := (HC.out _ (HLOW2.out _ (.inl hB2))).2
                simp [gives, go_sem, x0, cc, Moved.Grow, Below.refl]
              · intro ρ w5 hc hff ho hB2 hj
                have x0 : ρ (.tmp 97) = .pointer (some ⟨R, 0, none⟩) := hj (0, 97) (by simp)
                have x1 : ρ (.tmp 102) = .slice au nz cu := hj (5, 102) (by simp)
                have x2 : ρ (.tmp 107) = .int .i64 lim := hj (10, 107) (by simp)
                simp [gives, go_sem, x0, x1, x2, hff]
                refine (rt_dec (HQ.out.2.1.below hB2) (Nat.le_trans HQ.out.1.2.2 hB2.size) hb4 _ zs (HS.out.1.below (HQ.out.1.2.1.trans (hB2.mono HQ.out.1.2.2))) (by have := HS.out.2.1; omega) (far_below HS.out.1 (Nat.le_refl _) HQ.out.2.1.lt.1 (fun g hg => (HQ.out.2.1.lt.2.2 g hg).1)) lim).mono ?_
                rw [← HX.out]
                rintro e w6 ⟨lv, vr', rfl, hr, hd, hf, hm⟩
                exact ⟨_, rfl, ⟨lv, vr', rfl, hr.mono hB2.size, hd, fun g hg => (hf g hg).imp_right (fun h => Nat.le_trans hB2.size h)⟩, hm⟩
              · intro ρ w5 hc hff ho hB2 hj
                have hjj := hj (11, 108) (by simp)
                obtain ⟨lv, x0, hr⟩ := weak_ref hjj
                dsimp only at x0
                simp [gives, go_sem, x0, Moved.Grow, Below.refl]
                exact ⟨lv, rfl, hr⟩
              · intro ρ w5 hc hff ho hB2 hj
                obtain ⟨lv, x0, hr⟩ := hj (12, 96) (by simp)
                dsimp only at x0
                simp [gives, go_sem, x0, Moved.Grow, Below.refl]
                exact hr
              · intro ρ w5 hc hff ho hB2 hj
                obtain ⟨lv, x0, hr⟩ := hj (12, 96) (by simp)
                dsimp only at x0
                simp [gives, go_sem, x0, Moved.Grow, Below.refl]
              · intro ρ w5 hc hff ho hB2 hj
                obtain ⟨lv, x0, hr⟩ := hj (12, 96) (by simp)
                dsimp only at x0
                simp [gives, go_sem, x0, Moved.Grow, Below.refl]
            case tRest =>
              intro x16 w6 hG hx16
              have e0 : x16 0 = .pointer (some ⟨R, 0, none⟩) := hx16 0 (by decide)
              have e1 : x16 1 = .slice (some ⟨bk, off, none⟩) N c := hx16 1 (by decide)
              have e2 : x16 2 = .int .i64 (k : Int) := hx16 2 (by decide)
              have e3 : x16 3 = .pointer (some ⟨bk, off + k * 2, none⟩) := hx16 3 (by decide)
              have e4 : x16 4 = .pointer (some ⟨bk, off + k * 2, none⟩) := hx16 4 (by decide)
              have e5 : x16 5 = .slice au nz cu := hx16 5 (by decide)
              have e6 : x16 6 = .slice (some ⟨bk, off, none⟩) N c := hx16 6 (by decide)
              have e7 : x16 7 = .int .i64 (k : Int) := hx16 7 (by decide)
              have e8 : x16 8 = .pointer (some ⟨bk, off + k * 2, none⟩) := hx16 8 (by decide)
              have e9 : x16 9 = .pointer (some ⟨bk, off + k * 2 + 1, none⟩) := hx16 9 (by decide)
              have e10 : x16 10 = .int .i64 lim := hx16 10 (by decide)
              obtain ⟨lw, vr', e11, _, hd6, hf6⟩ := hx16 11 (by decide)
              obtain ⟨lw2, e12, _⟩ := hx16 12 (by decide)
              have hr6 : RowF w6 wq.heap.size (x16 13) (tellB lim X) := hx16 13 (by decide)
              have e14 : x16 14 = .bool (tellC lim X) := hx16 14 (by decide)
              have e15 : x16 15 = .int .i64 (tellE X) := hx16 15 (by decide)
              obtain ⟨bv, hbv⟩ : ∃ bv, x16 13 = bv := ⟨_, rfl⟩
              rw [hbv] at hr6
              simp only [putAll, List.getD_cons_zero, List.getD_cons_succ, Act.put, List.setIfInBounds_toArray, List.set_cons_zero, List.set_cons_succ, List.drop_succ_cons, List.drop_zero]
              rw [e0, e1, e2, e3, e4, e5, e6, e7, e8, e9, e10, e11, e12, hbv, e14, e15]
              clear hx16 e0 e1 e2 e3 e4 e5 e6 e7 e8 e9 e10 e11 e12 hbv e14 e15
              have hlv6 : Lv bd w D T vd' X.1.most X.1.fs w6 := ⟨HQ.out.1.1.pastR HQ.out.2.1.tab HQ.out.2.2.1 hG, HLOW2.out _ (.inl hG), Nat.le_trans HQ.out.1.2.2 hG.size⟩
              have H6 : Hid (Plays9 bd w D T R vd' vr' X.1.most X.1.fs w6 ∧ RowF w6 0 (.slice aa na ca) (tellB lim X) ∧ RowF w6 0 bv (tellB lim X)) :=
                ⟨⟨hlv6, hd6, fun g hg e => by
                  rcases hf6 g e with h | h
                  · exact HQ.out.2.2.1 g hg h
                  · have := (HQ.out.1.1.lt.2.2 g hg).2; omega⟩, HQ.out.2.2.2.1.pastR HQ.out.2.1.tab HQ.out.2.2.2.2 hG, hr6.mono (Nat.zero_le _)⟩
              obtain ⟨ab, cb, eb⟩ := hr6.shape
              obtain ⟨nb, hnb⟩ : ∃ nb, nb = (tellB lim X).length := ⟨_, rfl⟩
              rw [← hnb] at eb
              subst eb
              clear hd6 hf6 hr6 hG hnb HLOW2 HLT2 hlv6 HQ HP4
              rw [← HCE.out.1, ← HCE.out.2]
              go_wp2
              refine Calm.intro ?_
              go_wp2_with fail
              refine (refFields_any _ _ (tellB lim X) (tellB lim X) w6 H6.out.2.1.toSl H6.out.2.2.toSl).mono ?_
              rintro e w7 ⟨rfl, n7, hw7⟩
              rw [decide_eq_true rfl]
              have hb7 : Below w6.heap.size w6 w7 := by rw [hw7]; exact below_drewN (Below.refl _ _) n7
              have H7 := Lib.hid (H6.out.1.grown hb7)
              obtain ⟨ar, cr, er⟩ := H7.out.2.1.tab.2.2.shape
              obtain ⟨nr, hnr⟩ : ∃ nr, nr = X.1.fs.length := ⟨_, rfl⟩
              rw [← hnr] at er
              subst er
              clear hb7 hw7 H6 hnr
              go_wp2_with fail
              refine wp_region_table 6 [115, 116, 117, 118, 119, 120] [[], [(0, 115)], [], [(2, 117)], [(3, 118)], [(4, 119)]]
                (fun i v w' => match i with
                  | 0 => v = .pointer (some ⟨D, 0, none⟩)
                  | 1 => RowF w' w7.heap.size v X.1.fs
                  | 2 => v = .pointer (some ⟨R, 0, none⟩)
                  | 3 => v = .pointer (some ⟨R, 0, none⟩)
                  | 4 => v = .pointer (some ⟨R, 0, none⟩)
                  | 5 => v = .slice ar nr cr
                  | _ => True) (by kernel_rfl) (by kernel_rfl) ?tStab ?tOps ?tRest
              case tStab =>
                intro i v w3 w4 h hb
                match i, h with
                | 0, h | 2, h | 3, h | 4, h | 5, h => exact h
                | 1, h => exact RowF.below h hb
                | i + 6, _ => trivial
              case tOps =>
                simp only [List.take_succ_cons, List.take_zero, opsOk]
                refine ⟨?_, ?_, ?_, ?_, ?_, ?_, trivial⟩
                · intro ρ w3 hc hf ho hB hj
                  have x0 : ρ (.tmp 5) = .pointer (some ⟨D, 0, none⟩) := ho 5 (by decide)
                  simp [gives, go_sem, x0, Below.refl]
                · intro ρ w3 hc hf ho hB hj
                  have x0 : ρ (.tmp 115) = .pointer (some ⟨D, 0, none⟩) := hj (0, 115) (by simp)
                  simp [gives, go_sem, x0, hf]
                  refine (ds_table (H7.out.1.1.below hB) hb4).mono ?_
                  rintro e w4 ⟨t8, rfl, hr8, hb8⟩
                  exact ⟨_, rfl, hr8.mono hB.size, hb8⟩
                · intro ρ w3 hc hf ho hB hj
                  have x0 : ρ (.tmp 7) = .pointer (some ⟨R, 0, none⟩) := ho 7 (by decide)
                  simp [gives, go_sem, x0, Below.refl]
                · intro ρ w3 hc hf ho hB hj
                  have x0 : ρ (.tmp 117) = .pointer (some ⟨R, 0, none⟩) := hj (2, 117) (by simp)
                  simp [gives, go_sem, x0, Below.refl]
                · intro ρ w3 hc hf ho hB hj
                  have x0 : ρ (.tmp 118) = .pointer (some ⟨R, 0, none⟩) := hj (3, 118) (by simp)
                  simp [gives, go_sem, x0, Below.refl]
                · intro ρ w3 hc hf ho hB hj
                  have x0 : ρ (.tmp 119) = .pointer (some ⟨R, 0, none⟩) := hj (4, 119) (by simp)
                  have cc := (H7.out.2.1.below hB).tab.2.1.c0
                  simp [gives, go_sem, x0, cc, Below.refl]
              case tRest =>
                intro x18 w8 hB18 hx18
                have y0 : x18 0 = .pointer (some ⟨D, 0, none⟩) := hx18 0 (by decide)
                have hr8 : RowF w8 w7.heap.size (x18 1) X.1.fs := hx18 1 (by decide)
                have y2 : x18 2 = .pointer (some ⟨R, 0, none⟩) := hx18 2 (by decide)
                have y3 : x18 3 = .pointer (some ⟨R, 0, none⟩) := hx18 3 (by decide)
                have y4 : x18 4 = .pointer (some ⟨R, 0, none⟩) := hx18 4 (by decide)
                have y5 : x18 5 = .slice ar nr cr := hx18 5 (by decide)
                obtain ⟨tv, htv⟩ : ∃ tv, x18 1 = tv := ⟨_, rfl⟩
                rw [htv] at hr8
                simp only [putAll, List.getD_cons_zero, List.getD_cons_succ, Act.put, List.setIfInBounds_toArray, List.set_cons_zero, List.set_cons_succ, List.drop_succ_cons, List.drop_zero]
                rw [y0, htv, y2, y3, y4, y5]
                have H8 := Lib.hid (And.intro (H7.out.grown hB18) hr8)
                clear hx18 y0 htv y2 y3 y4 y5 hr8 hB18 H7
                go_wp2_with fail
                refine (refFields_any _ _ X.1.fs X.1.fs w8 H8.out.2.toSl H8.out.1.2.1.tab.2.2.toSl).mono ?_
                rintro e w9 ⟨rfl, n9, hw9⟩
                rw [decide_eq_true rfl]
                have hb9 : Below w8.heap.size w8 w9 := by rw [hw9]; exact below_drewN (Below.refl _ _) n9
                have H9 := Lib.hid (H8.out.1.grown hb9)
                clear hb9 hw9 H8
                obtain ⟨S, hS⟩ : ∃ S, S = sumF X.1.fs := ⟨_, rfl⟩
                have HSS := Lib.hid hS
                clear hS
                go_wp2_with fail
                refine wp_region_quiet (C := fun w' => Below w9.heap.size w9 w') (by kernel_rfl) (by kernel_rfl) (Below.refl _ _).drew ?_
                refine quiet_take (.bool true) rfl (quiet_pure (fun w => rfl)) ?_
                simp only [Act.put, List.setIfInBounds_toArray, List.set_cons_zero, List.set_cons_succ]
                refine quiet_take (.bool false) rfl (quiet_pure (fun w => by simp [go_sem])) ?_
                simp only [Act.put, List.setIfInBounds_toArray, List.set_cons_zero, List.set_cons_succ]
                refine quiet_take (.bool false) rfl (quiet_pure (fun w => rfl)) ?_
                simp only [Act.put, List.setIfInBounds_toArray, List.set_cons_zero, List.set_cons_succ]
                refine quiet_take (.bool C) rfl (quiet_pure (fun w => rfl)) ?_
                simp only [Act.put, List.setIfInBounds_toArray, List.set_cons_zero, List.set_cons_succ]
                refine quiet_take (.bool C) rfl (quiet_pure (fun w => rfl)) ?_
                simp only [Act.put, List.setIfInBounds_toArray, List.set_cons_zero, List.set_cons_succ]
                refine quiet_take (.bool false) rfl (quiet_pure (fun w => by simp [go_sem])) ?_
                simp only [Act.put, List.setIfInBounds_toArray, List.set_cons_zero, List.set_cons_succ]
                refine quiet_take (.bool false) rfl (quiet_pure (fun w => by simp [go_sem])) ?_
                simp only [Act.put, List.setIfInBounds_toArray, List.set_cons_zero, List.set_cons_succ]
                refine quiet_take (.bool false) rfl (quiet_pure (fun w => rfl)) ?_
                simp only [Act.put, List.setIfInBounds_toArray, List.set_cons_zero, List.set_cons_succ]
                refine quiet_take (.int .i64 E) rfl (quiet_pure (fun w => rfl)) ?_
                simp only [Act.put, List.setIfInBounds_toArray, List.set_cons_zero, List.set_cons_succ]
                refine quiet_take (.int .i64 E) rfl (quiet_pure (fun w => rfl)) ?_
                simp only [Act.put, List.setIfInBounds_toArray, List.set_cons_zero, List.set_cons_succ]
                refine quiet_take (.bool false) rfl (quiet_pure (fun w => by simp [go_sem])) ?_
                simp only [Act.put, List.setIfInBounds_toArray, List.set_cons_zero, List.set_cons_succ]
                refine quiet_take (.bool false) rfl (quiet_pure (fun w => by simp [go_sem])) ?_
                simp only [Act.put, List.setIfInBounds_toArray, List.set_cons_zero, List.set_cons_succ]
                refine quiet_take (.bool false) rfl (quiet_pure (fun w => rfl)) ?_
                simp only [Act.put, List.setIfInBounds_toArray, List.set_cons_zero, List.set_cons_succ]
                refine quiet_take (.bool true) rfl (quiet_pure (fun w => rfl)) ?_
                simp only [Act.put, List.setIfInBounds_toArray, List.set_cons_zero, List.set_cons_succ]
                refine quiet_take (.bool false) rfl (quiet_pure (fun w => by simp [go_sem])) ?_
                simp only [Act.put, List.setIfInBounds_toArray, List.set_cons_zero, List.set_cons_succ]
                refine quiet_take (.bool false) rfl (quiet_pure (fun w => by simp [go_sem])) ?_
                simp only [Act.put, List.setIfInBounds_toArray, List.set_cons_zero, List.set_cons_succ]
                refine quiet_take (.bool false) rfl (quiet_pure (fun w => rfl)) ?_
                simp only [Act.put, List.setIfInBounds_toArray, List.set_cons_zero, List.set_cons_succ]
                refine quiet_take (.pointer (some ⟨D, 0, none⟩)) rfl (quiet_pure (fun w => rfl)) ?_
                simp only [Act.put, List.setIfInBounds_toArray, List.set_cons_zero, List.set_cons_succ]
                refine quiet_take (.int .i64 (S : Nat)) rfl (quiet_call 14 _ _ rfl [.pointer (some ⟨D, 0, none⟩)] rfl (enters_of Tryd.func14 (by kernel_rfl) rfl) (fun w hw => (ds_size (H9.out.1.1.below hw)).mono (by rintro e w'' ⟨rfl, hww⟩; rw [hww]; exact ⟨by rw [HSS.out], hw⟩))) ?_
                simp only [Act.put, List.setIfInBounds_toArray, List.set_cons_zero, List.set_cons_succ]
                refine quiet_take (.pointer (some ⟨R, 0, none⟩)) rfl (quiet_pure (fun w => rfl)) ?_
                simp only [Act.put, List.setIfInBounds_toArray, List.set_cons_zero, List.set_cons_succ]
                refine quiet_take (.pointer (some ⟨R, 0, none⟩)) rfl (quiet_pure (fun w => by simp [go_sem])) ?_
                simp only [Act.put, List.setIfInBounds_toArray, List.set_cons_zero, List.set_cons_succ]
                refine quiet_take (.pointer (some ⟨R, 0, none⟩)) rfl (quiet_pure (fun w => by simp [go_sem])) ?_
                simp only [Act.put, List.setIfInBounds_toArray, List.set_cons_zero, List.set_cons_succ]
                refine quiet_take (.slice ar nr cr) rfl (quiet_is9 (fun w hw => by have c0 := (H9.out.2.1.below hw).tab.2.1.c0; simp [go_sem, c0])) ?_
                simp only [Act.put, List.setIfInBounds_toArray, List.set_cons_zero, List.set_cons_succ]
                refine quiet_take (.int .i64 (S : Nat)) rfl (quiet_call 15 _ _ rfl [.slice ar nr cr] rfl (enters_of Tryd.func15 (by kernel_rfl) rfl) (fun w hw => (refSum_any _ X.1.fs w (H9.out.2.1.below hw).tab.2.2.toSl (H9.out.1.1.size hb4).2).mono (by rintro e w'' ⟨rfl, hbb⟩; exact ⟨by rw [HSS.out], hw.trans (hbb.mono hw.size)⟩))) ?_
                simp only [Act.put, List.setIfInBounds_toArray, List.set_cons_zero, List.set_cons_succ]
                refine quiet_take (.bool false) rfl (quiet_pure (fun w => by simp [go_sem])) ?_
                simp only [Act.put, List.setIfInBounds_toArray, List.set_cons_zero, List.set_cons_succ]
                refine quiet_take (.bool false) rfl (quiet_pure (fun w => by simp [go_sem])) ?_
                simp only [Act.put, List.setIfInBounds_toArray, List.set_cons_zero, List.set_cons_succ]
                intro W10 hb10
                have H10 := Lib.hid (H9.out.grown hb10)
                clear hb10 H9
                go_wp2_with fail
                go_roundg (N - (k + 1))
                case measure => have := HKQ.out; omega
                case rel => exact ⟨k + 1, by omega, by go_num, _, _, _, _, H10.out⟩
      · have dz : decide ((300 : Int) < (nz : Int)) = true := decide_eq_true (by omega)
        have dzb : decide (300 < nz) = true := decide_eq_true (by omega)
        clear hz hs hlim
        go_wp2_with fail
        refine (HAL.out wr HP.out.1.2.1).mono ?_
        rintro e w10 ⟨rfl, hb10⟩
        have HB := Lib.hid (HP.out.1.2.1.trans (hb10.mono HP.out.1.2.2))
        clear hb10
        go_wp2_with fail
        go_ret
        exact ⟨rfl, HB.out⟩
    · obtain rfl : k = N := by omega
      clear hlt hk
      go_wp2_with fail
      refine (bDec_nil _ _ _).mono ?_
      rintro e w3 ⟨rfl, hw3⟩
      rw [hw3]
      clear hw3
      go_wp2_with fail
      refine (HAL.out wr HP.out.1.2.1).mono ?_
      rintro e w10 ⟨rfl, hb10⟩
      have HB := Lib.hid (HP.out.1.2.1.trans (hb10.mono HP.out.1.2.2))
      clear hb10
      go_wp2_with fail
      refine (bTable_nil _).mono ?_
      rintro e w11 ⟨rfl, hw11⟩
      rw [hw11]
      clear hw11
      go_wp2_with fail
      refine (bSize_nil _).mono ?_
      rintro e w11 ⟨rfl, hw11⟩
      rw [hw11]
      clear hw11
      go_wp2_with fail
      refine (bClone_nil _).mono ?_
      rintro e w11 ⟨rfl, hw11⟩
      rw [hw11]
      clear hw11
      go_wp2_with fail
      go_ret
      exact ⟨rfl, HB.out⟩
set_option maxHeartbeats 1000000 in
/-- **BlockReads** -/
theorem reads09_any (bd : Int) (v : Value) (xs : List Rd9) (w : World) (h : SlR w v xs) (hT : ShT w) :
    Calls Tryd.prog 3 #[.int .i64 bd, v] w fun e w' => e = .returned (.bool true) ∧ Below w.heap.size w w' := by
  by_cases hl : xs.length ≤ 20
  · by_cases hb : 0 ≤ bd ∧ bd ≤ 4096
    · exact reads09 bd v xs w h hl hb.1 hb.2 hT
    · obtain ⟨a, c, hv, _, _⟩ := h.shape
      subst hv
      have HAL := Lib.hid (alive09 w hT)
      have HNW := Lib.hid (bNew_no bd w hb)
      obtain ⟨N, hN⟩ : ∃ N, N = xs.length := ⟨_, rfl⟩
      rw [← hN] at hl ⊢
      have d0 : decide ((20 : Int) < (N : Int)) = false := decide_eq_false (by omega)
      have d0b : decide (20 < N) = false := decide_eq_false (by omega)
      clear hl hT hN h
      by_cases h0 : bd < 0
      · have db : decide (bd < 0) = true := decide_eq_true h0
        clear h0 hb
        go_enter Tryd.func3, Tryd.ntmps3
        go_wp2_with fail
        refine (HNW.out).mono ?_
        rintro e w1 ⟨rfl, hw1⟩
        rw [hw1]
        clear hw1
        go_wp2_with fail
        refine (HAL.out).mono ?_
        rintro e w10 ⟨rfl, hb10⟩
        have HB := Lib.hid hb10
        clear hb10
        go_wp2_with fail
        go_ret
        exact ⟨rfl, HB.out⟩
      · have db : decide (bd < 0) = false := decide_eq_false h0
        have db4 : decide (4096 < bd) = true := decide_eq_true (by omega)
        clear h0 hb
        go_enter Tryd.func3, Tryd.ntmps3
        go_wp2_with fail
        refine (HNW.out).mono ?_
        rintro e w1 ⟨rfl, hw1⟩
        rw [hw1]
        clear hw1
        go_wp2_with fail
        refine (HAL.out).mono ?_
        rintro e w10 ⟨rfl, hb10⟩
        have HB := Lib.hid hb10
        clear hb10
        go_wp2_with fail
        go_ret
        exact ⟨rfl, HB.out⟩
  · obtain ⟨a, c, hv, hv1, hv2⟩ := h.shape
    subst hv
    unfold maxLen at hv2
    have HAL := Lib.hid (alive09 w hT)
    obtain ⟨N, hN⟩ : ∃ N, N = xs.length := ⟨_, rfl⟩
    rw [← hN] at hl hv1 ⊢
    have d0 : decide ((20 : Int) < (N : Int)) = true := decide_eq_true (by omega)
    have d0b : decide (20 < N) = true := decide_eq_true (by omega)
    clear hl hT hN h
    go_enter Tryd.func3, Tryd.ntmps3
    go_wp2_with fail
    refine (HAL.out).mono ?_
    rintro e w10 ⟨rfl, hb10⟩
    have HB := Lib.hid hb10
    clear hb10
    go_wp2_with fail
    go_ret
    exact ⟨rfl, HB.out⟩
end Go.Proofs.YtenapfpkegoonaaDoor

/-
  Layer 9's statements: what is written is read as it was.
-/
namespace Go.Proofs.YtenapfpkegoonaaDoor
set_option maxRecDepth 20000
open Go.RowKit

theorem back_tell (b m : Int) (fs l : List Fd) (first : Bool) (h : ∀ f ∈ l, okF f) (hb : 0 ≤ b) :
    tellB (sumF l : Nat) (readB b m fs (encB first l)) = l ∧ tellC (sumF l : Nat) (readB b m fs (encB first l)) = false ∧ tellE (readB b m fs (encB first l)) = 0 ∧
    tellB ((sumF l : Nat) - 1) (readB b m fs (encB first l)) = [] ∧ tellC ((sumF l : Nat) - 1) (readB b m fs (encB first l)) = true ∧ (readB b m fs (encB first l)).1.fs = if first then [] else fs := by
  rw [read_back b m fs l first h hb]
  cases first with
  | true =>
    refine ⟨?_, ?_, rfl, ?_, ?_, rfl⟩
    · show tellL (sumF l : Nat) l = l
      exact tellL_fit (Int.le_refl _)
    · show (true && decide ((sumF l : Int) < (sumF l : Int))) = false
      rw [decide_eq_false (by omega)]; rfl
    · show tellL ((sumF l : Nat) - 1) l = []
      exact tellL_over (by omega)
    · show (true && decide ((sumF l : Int) - 1 < (sumF l : Int))) = true
      rw [decide_eq_true (by omega)]; rfl
  | false =>
    refine ⟨?_, ?_, rfl, ?_, ?_, rfl⟩
    · show tellL (sumF l : Nat) l = l
      exact tellL_fit (Int.le_refl _)
    · show (true && decide ((sumF l : Int) < (sumF l : Int))) = false
      rw [decide_eq_false (by omega)]; rfl
    · show tellL ((sumF l : Nat) - 1) l = []
      exact tellL_over (by omega)
    · show (true && decide ((sumF l : Int) - 1 < (sumF l : Int))) = true
      rw [decide_eq_true (by omega)]; rfl
def fits9 (l : List Fd) : Prop := ∀ f ∈ l, f.1.size ≤ 300 ∧ f.2.size ≤ 300
theorem fits9.ok {l : List Fd} (h : fits9 l) : ∀ f ∈ l, okF f := fun f hf => ⟨by have := (h f hf).1; omega, by have := (h f hf).2; omega⟩
set_option maxHeartbeats 8000000 in
theorem writes09 (v u : Value) (l : List Fd) (first : Bool) (ys : List Int) (w : World) (h : SlD w v l) (hs : Sl .u8 w u ys) (hl : l.length ≤ 20) (hy : ys.length ≤ 300) (hT : ShT w) :
    Calls Tryd.prog 4 #[v, .bool first, u] w fun e w' => e = .returned (.bool true) ∧ Below w.heap.size w w' := by
  obtain ⟨a, c, hv, hc1, hc2⟩ := h.shape
  obtain ⟨a2, c2, hu2, _⟩ := id hs
  subst hv; subst hu2
  unfold maxLen at hc2
  have HAL := Lib.hid (fun (W : World) (hW : Below w.heap.size w W) => alive09 W (hT.below hW))
  have HI := Lib.hid (And.intro h (And.intro hs hT))
  obtain ⟨N, hN⟩ : ∃ N, N = l.length := ⟨_, rfl⟩
  obtain ⟨N2, hN2⟩ : ∃ N2, N2 = ys.length := ⟨_, rfl⟩
  rw [← hN2] at HI hy ⊢
  rw [← hN] at HI hl hc1 ⊢
  have HN := Lib.hid (And.intro hN hN2)
  clear h hs hT hN hN2
  go_enter Tryd.func4, Tryd.ntmps4
  go_wp2_with fail
  go_loopg [7, 8] N (fun q s7 s8 wr => ∃ k z n : Nat, k + q = N ∧ s8 = .int .i64 k ∧ s7 = .int .i64 z ∧ wr = w.drewN n ∧ z ≤ 632 * k ∧ Hid (z = sumF (l.take k) ∧ fits9 (l.take k)))
  case atStart => exact ⟨0, 0, 0, by omega, rfl, rfl, rfl, by omega, Lib.hid ⟨rfl, fun f hf => by simp at hf⟩⟩
  case round =>
    obtain ⟨k, z, n, hkq, rfl, rfl, rfl, hzk, HF⟩ := hrel
    have HKQ := Lib.hid hkq
    have hk : k ≤ N := by omega
    clear hkq
    by_cases hlt : k < N
    · obtain ⟨f, hf⟩ : ∃ f, l[k]? = some f := ⟨l[k]'(by rw [← HN.out.1]; exact hlt), List.getElem?_eq_getElem (by rw [← HN.out.1]; exact hlt)⟩
      obtain ⟨bk, off, rfl, hbl, hcell⟩ := HI.out.1.at_ (i := k) (by rw [← HN.out.1]; exact hlt)
      obtain ⟨x0, x1⟩ := hcell f hf
      have x0w : (w.drewN n).cell? ⟨bk, off + k * 2, none⟩ = some (.string f.1) := x0
      have x1w : (w.drewN n).cell? ⟨bk, off + k * 2 + 1, none⟩ = some (.string f.2) := x1
      have HTK := Lib.hid (show l.take (k + 1) = l.take k ++ [f] by rw [List.take_add_one, hf]; rfl)
      have hix := run_index_sl (P := Tryd.prog) (t := 33) (s := 2) sliceFld (fun _ => by kernel_rfl) bk off N c k hlt
      clear hcell hf
      by_cases h1 : f.1.size ≤ 300
      · have d1 : decide ((300 : Int) < (f.1.size : Int)) = false := decide_eq_false (by omega)
        have d1b : decide (300 < f.1.size) = false := decide_eq_false (by omega)
        by_cases h2 : f.2.size ≤ 300
        · have d2 : decide ((300 : Int) < (f.2.size : Int)) = false := decide_eq_false (by omega)
          have d2b : decide (300 < f.2.size) = false := decide_eq_false (by omega)
          have w1 : IntKind.i64.wrap ((z : Int) + (f.1.size : Int)) = (z : Int) + (f.1.size : Int) := IntWalk.i64_in _ (by omega)
          have w2 : IntKind.i64.wrap ((z : Int) + (f.1.size : Int) + (f.2.size : Int)) = (z : Int) + (f.1.size : Int) + (f.2.size : Int) := IntWalk.i64_in _ (by omega)
          have w3 : IntKind.i64.wrap ((z : Int) + (f.1.size : Int) + (f.2.size : Int) + 32) = (z : Int) + (f.1.size : Int) + (f.2.size : Int) + 32 := IntWalk.i64_in _ (by omega)
          go_wp2_with fail
          go_quiet (fail)
          go_wp2_with fail
          go_roundg (N - (k + 1))
          case measure => have := HKQ.out; omega
          case rel =>
            refine ⟨k + 1, z + f.1.size + f.2.size + 32, n + nq, by omega, by go_num, by push_cast; rfl, rfl, by omega, ?_⟩
            refine (show Hid (_ ∧ _) from ⟨?_, ?_⟩)
            · rw [HTK.out, sumF_append, sumF_one, ← HF.out.1]; unfold szF; omega
            · rw [HTK.out]
              intro g hg
              rcases List.mem_append.1 hg with hg | hg
              · exact HF.out.2 g hg
              · rw [List.mem_singleton] at hg; rw [hg]; exact ⟨h1, h2⟩
        · have d2 : decide ((300 : Int) < (f.2.size : Int)) = true := decide_eq_true (by omega)
          have d2b : decide (300 < f.2.size) = true := decide_eq_true (by omega)
          clear h2
          go_wp2_with fail
          refine (HAL.out _ (below_drewN (Below.refl _ _) n)).mono ?_
          rintro e w10 ⟨rfl, hb10⟩
          have HB := Lib.hid ((below_drewN (Below.refl w.heap.size w) n).trans hb10)
          clear hb10
          go_wp2_with fail
          go_ret
          exact ⟨rfl, HB.out⟩
      · have d1 : decide ((300 : Int) < (f.1.size : Int)) = true := decide_eq_true (by omega)
        have d1b : decide (300 < f.1.size) = true := decide_eq_true (by omega)
        clear h1
        go_wp2_with fail
        refine (HAL.out _ (below_drewN (Below.refl _ _) n)).mono ?_
        rintro e w10 ⟨rfl, hb10⟩
        have HB := Lib.hid ((below_drewN (Below.refl w.heap.size w) n).trans hb10)
        clear hb10
        go_wp2_with fail
        go_ret
        exact ⟨rfl, HB.out⟩
    · obtain rfl : k = N := by omega
      have hall : l.take k = l := List.take_of_length_le (by rw [HN.out.1]; exact Nat.le_refl _)
      have HF2 : Hid (z = sumF l ∧ fits9 l) := by have := HF.out; rw [hall] at this; exact this
      have hB0 : Below w.heap.size w (w.drewN n) := below_drewN (Below.refl _ _) n
      have HI2 := Lib.hid (And.intro (HI.out.1.below hB0) (And.intro (HI.out.2.1.below hB0) (And.intro (HI.out.2.2.below hB0) hB0)))
      clear hlt hk hall hB0
      go_wp2_with fail
      refine (bEnc_any _ l first _ HI2.out.1 (by rw [← HN.out.1]; omega) HI2.out.2.2.1).mono ?_
      rw [encR_yes HF2.out.2.ok]
      rintro e w1 ⟨b1, rfl, hb1, hB1⟩
      have H1 := Lib.hid (And.intro hb1 (And.intro (HI2.out.1.below hB1) (And.intro (HI2.out.2.1.below hB1) (And.intro (HI2.out.2.2.1.below hB1) (HI2.out.2.2.2.trans hB1)))))
      clear hb1 hB1 HI2
      obtain ⟨ab, cb, eb, _⟩ := id H1.out.1
      subst eb
      go_wp2_with fail
      refine (refBEnc_any _ l first _ H1.out.2.1 (by rw [← HN.out.1]; omega)).mono ?_
      rw [encR_yes HF2.out.2.ok]
      rintro e w2 ⟨b2, rfl, hb2, hB2⟩
      have H2 := Lib.hid (And.intro hb2 (And.intro (H1.out.1.below hB2) (And.intro (H1.out.2.1.below hB2) (And.intro (H1.out.2.2.1.below hB2) (And.intro (H1.out.2.2.2.1.below hB2) (H1.out.2.2.2.2.trans (hB2.mono H1.out.2.2.2.2.size)))))))
      clear hb2 hB2 H1
      obtain ⟨ac, cc, ec, _⟩ := id H2.out.1
      subst ec
      go_wp2_with fail
      refine (same_any _ _ (encB first l) (encB first l) _ H2.out.2.1 H2.out.1).mono ?_
      rintro e W0 ⟨rfl, n3, hw3⟩
      rw [decide_eq_true rfl]
      have hB3 : Below w2.heap.size w2 W0 := by rw [hw3]; exact below_drewN (Below.refl _ _) n3
      have H3 := Lib.hid (And.intro (H2.out.2.1.below hB3) (And.intro (H2.out.2.2.1.below hB3) (And.intro (H2.out.2.2.2.1.below hB3) (And.intro (H2.out.2.2.2.2.1.below hB3) (H2.out.2.2.2.2.2.trans (hB3.mono H2.out.2.2.2.2.2.size))))))
      clear hB3 hw3 H2
      go_wp2_with fail
      refine (ds_new 4096 W0 (by decide) (by decide)).mono ?_
      rintro e w4 ⟨D, T, v, rfl, hd, hb⟩
      have H4 : Hid (Lv 4096 W0 D T v 4096 [] w4) := ⟨hd, hb, hb.size⟩
      clear hd hb
      go_wp2_with fail
      refine (lv_dec H4.out (by decide) H3.out.2.2.2.1 _ ys H3.out.2.2.1 (by rw [← HN.out.2]; omega) 999 (by decide)).mono ?_
      rintro e w5 ⟨lv5, v5, rfl, _, hd5, _, _⟩
      obtain ⟨m5, hm5⟩ : ∃ m5, m5 = (readB 4096 4096 [] ys).1.most := ⟨_, rfl⟩
      obtain ⟨f5, hf5⟩ : ∃ f5, f5 = (readB 4096 4096 [] ys).1.fs := ⟨_, rfl⟩
      rw [← hm5, ← hf5] at hd5
      have H5 := Lib.hid hd5
      clear hd5 hm5 hf5 H4
      go_wp2_with fail
      refine (ds_table H5.out.1 (by decide)).mono ?_
      rintro e w6 ⟨t6, rfl, hr6, hb6⟩
      have H6 : Hid (Lv 4096 W0 D T v5 m5 f5 w6 ∧ RowF w6 0 t6 f5 ∧ ∀ g, t6.ownBlock = some g → v5.ownBlock ≠ some g) :=
        ⟨H5.out.grown hb6, hr6.mono (Nat.zero_le _), fun g hg e => by have := (hr6.lt g hg).1; have := (H5.out.1.lt.2.2 g e).2; omega⟩
      clear hr6 hb6 H5
      go_wp2_with fail
      refine (ds_clone H6.out.1.1 (by decide)).mono ?_
      rintro e w7 ⟨D', T', v', rfl, hd7, hb7⟩
      have hc7 := H6.out.1.clone hd7 hb7
      have H7 : Hid (Lv 4096 W0 D T v5 m5 f5 w7 ∧ Lv 4096 W0 D' T' v' m5 f5 w7 ∧ Apt T v5 T' v' ∧ RowF w7 0 t6 f5 ∧ (∀ g, t6.ownBlock = some g → v5.ownBlock ≠ some g) ∧ ∀ g, t6.ownBlock = some g → v'.ownBlock ≠ some g) :=
        ⟨hc7.1, hc7.2.1, hc7.2.2, H6.out.2.1.below hb7, H6.out.2.2, fun g hg e => by have := (H6.out.2.1.lt g hg).2; have := (hd7.lt.2.2 g e).1; omega⟩
      clear hd7 hb7 hc7 H6
      obtain ⟨e1, e2, e3, e4, e5, e6⟩ := back_tell 4096 m5 f5 l first HF2.out.2.ok (by decide)
      have hlenb : (encB first l).length ≤ 1000000 := by
        have h1 := encLs_len (l := l) (M := 300) (by decide) HF2.out.2
        have h2 := headB_len first
        have h3 : l.length * (16 + 8 * 300) ≤ 20 * (16 + 8 * 300) := Nat.mul_le_mul_right _ (by rw [← HN.out.1]; omega)
        rw [encB, List.length_append]
        omega
      rw [← HF2.out.1] at e1 e2 e4 e5
      have HX := Lib.hid (And.intro e1 (And.intro e2 (And.intro e3 (And.intro e4 (And.intro e5 (And.intro e6 hlenb))))))
      clear e1 e2 e3 e4 e5 e6 hlenb
      go_wp2_with fail
      refine (lv_dec H7.out.1 (by decide) H3.out.2.2.2.1 _ (encB first l) H3.out.1 HX.out.2.2.2.2.2.2 z (by omega)).mono ?_
      rw [HX.out.1, HX.out.2.1, HX.out.2.2.1]
      rintro e w8 ⟨x8, v8, rfl, hr8, hd8, hf8, hm8⟩
      have hk8 := Lv.past H7.out.2.1 H7.out.1 hd8 H7.out.2.2.1.symm hm8
      have ha8 := H7.out.2.2.1.moved hf8 H7.out.2.1.1
      obtain ⟨m8, hm8e⟩ : ∃ m8, m8 = (readB 4096 m5 f5 (encB first l)).1.most := ⟨_, rfl⟩
      rw [HX.out.2.2.2.2.2.1, ← hm8e] at hd8
      have H8 : Hid (Lv 4096 W0 D T v8 m8 (if first then [] else f5) w8 ∧ Lv 4096 W0 D' T' v' m5 f5 w8 ∧ Apt T v8 T' v' ∧ (RowF w8 0 t6 f5 ∧ ∀ g, t6.ownBlock = some g → v'.ownBlock ≠ some g) ∧ RowF w8 0 x8 l ∧ ∀ g, x8.ownBlock = some g → v'.ownBlock ≠ some g) :=
        ⟨hd8, hk8, ha8, ⟨H7.out.2.2.2.1.past H7.out.1.1.tab H7.out.2.2.2.2.1 hm8, H7.out.2.2.2.2.2⟩, hr8.mono (Nat.zero_le _), fun g hg e => by have := (hr8.lt g hg).1; have := (H7.out.2.1.1.lt.2.2 g e).2; omega⟩
      clear hr8 hd8 hf8 hm8 hk8 ha8 hm8e H7
      go_wp2_with fail
      refine (lv_dec H8.out.2.1 (by decide) H3.out.2.2.2.1 _ (encB first l) H3.out.1 HX.out.2.2.2.2.2.2 ((z : Int) - 1) (by omega)).mono ?_
      rw [HX.out.2.2.2.1, HX.out.2.2.2.2.1, HX.out.2.2.1]
      rintro e w9 ⟨x9, v9, rfl, hr9, hd9, hf9, hm9⟩
      have hk9 := Lv.past H8.out.1 H8.out.2.1 hd9 H8.out.2.2.1 hm9
      obtain ⟨m9, hm9e⟩ : ∃ m9, m9 = (readB 4096 m5 f5 (encB first l)).1.most := ⟨_, rfl⟩
      rw [HX.out.2.2.2.2.2.1, ← hm9e] at hd9
      have H9 : Hid (Lv 4096 W0 D T v8 m8 (if first then [] else f5) w9 ∧ Lv 4096 W0 D' T' v9 m9 (if first then [] else f5) w9 ∧ RowF w9 0 t6 f5 ∧ RowF w9 0 x8 l ∧ SlD w9 (.slice a k c) l) :=
        ⟨hk9, hd9, H8.out.2.2.2.1.1.past H8.out.2.1.1.tab H8.out.2.2.2.1.2 hm9, H8.out.2.2.2.2.1.past H8.out.2.1.1.tab H8.out.2.2.2.2.2 hm9, H3.out.2.1.below hd9.2.1⟩
      obtain ⟨ay, cy, ey⟩ := hr9.shape
      change x9 = .slice ay 0 cy at ey
      subst ey
      obtain ⟨at6, ct6, et6⟩ := H9.out.2.2.1.shape
      obtain ⟨nt, hnt⟩ : ∃ nt, nt = f5.length := ⟨_, rfl⟩
      rw [← hnt] at et6
      subst et6
      clear hr9 hd9 hf9 hm9 hk9 hm9e H8 hnt
      go_wp2_with fail
      refine (refFields_any _ _ l l w9 H9.out.2.2.2.1.toSl H9.out.2.2.2.2).mono ?_
      rintro e w10 ⟨rfl, n10, hw10⟩
      rw [decide_eq_true rfl]
      have hb10 : Below w9.heap.size w9 w10 := by rw [hw10]; exact below_drewN (Below.refl _ _) n10
      have H10 : Hid (Lv 4096 W0 D T v8 m8 (if first then [] else f5) w10 ∧ Lv 4096 W0 D' T' v9 m9 (if first then [] else f5) w10 ∧ RowF w10 0 (.slice at6 nt ct6) f5) := ⟨H9.out.1.grown hb10, H9.out.2.1.grown hb10, H9.out.2.2.1.below hb10⟩
      clear hb10 hw10 H9
      cases first with
      | true =>
        have H11 : Hid (Lv 4096 W0 D T v8 m8 [] w10 ∧ Lv 4096 W0 D' T' v9 m9 [] w10 ∧ RowF w10 0 (.slice none 0 0) []) := ⟨H10.out.1, H10.out.2.1, RowF.nil _ _⟩
        clear H10
        go_wp2_with fail
        refine (ds_table H11.out.1.1 (by decide)).mono ?_
        rintro e w11 ⟨t11, rfl, hr11, hb11⟩
        have H12 : Hid (RowF w11 0 t11 [] ∧ Lv 4096 W0 D' T' v9 m9 [] w11 ∧ RowF w11 0 (.slice none 0 0) []) := ⟨hr11.mono (Nat.zero_le _), H11.out.2.1.grown hb11, H11.out.2.2.below hb11⟩
        clear hr11 hb11 H11
        go_wp2_with fail
        refine (refFields_any _ _ [] [] w11 H12.out.1.toSl H12.out.2.2.toSl).mono ?_
        rintro e w12 ⟨rfl, n12, hw12⟩
        rw [decide_eq_true rfl]
        have hb12 : Below w11.heap.size w11 w12 := by rw [hw12]; exact below_drewN (Below.refl _ _) n12
        have H13 : Hid (Lv 4096 W0 D' T' v9 m9 [] w12 ∧ RowF w12 0 (.slice none 0 0) []) := ⟨H12.out.2.1.grown hb12, H12.out.2.2.below hb12⟩
        clear hb12 hw12 H12
        go_wp2_with fail
        refine (ds_table H13.out.1.1 (by decide)).mono ?_
        rintro e w13 ⟨t13, rfl, hr13, hb13⟩
        have H14 : Hid (RowF w13 0 t13 [] ∧ Lv 4096 W0 D' T' v9 m9 [] w13 ∧ RowF w13 0 (.slice none 0 0) []) := ⟨hr13.mono (Nat.zero_le _), H13.out.1.grown hb13, H13.out.2.below hb13⟩
        clear hr13 hb13 H13
        go_wp2_with fail
        refine (refFields_any _ _ [] [] w13 H14.out.1.toSl H14.out.2.2.toSl).mono ?_
        rintro e w14 ⟨rfl, n14, hw14⟩
        rw [decide_eq_true rfl]
        have hb14 : Below w13.heap.size w13 w14 := by rw [hw14]; exact below_drewN (Below.refl _ _) n14
        have H15 := Lib.hid (H3.out.2.2.2.2.trans ((H14.out.2.1.grown hb14).2.1.mono H3.out.2.2.2.2.size))
        clear hb14 hw14 H14
        go_wp2_with fail
        refine (HAL.out _ H15.out).mono ?_
        rintro e w15 ⟨rfl, hb15⟩
        have HB := Lib.hid (H15.out.trans (hb15.mono H15.out.size))
        clear hb15
        go_wp2_with fail
        go_ret
        exact ⟨rfl, HB.out⟩
      | false =>
        have H11 : Hid (Lv 4096 W0 D T v8 m8 f5 w10 ∧ Lv 4096 W0 D' T' v9 m9 f5 w10 ∧ RowF w10 0 (.slice at6 nt ct6) f5) := ⟨H10.out.1, H10.out.2.1, H10.out.2.2⟩
        clear H10
        go_wp2_with fail
        refine (ds_table H11.out.1.1 (by decide)).mono ?_
        rintro e w11 ⟨t11, rfl, hr11, hb11⟩
        have H12 : Hid (RowF w11 0 t11 f5 ∧ Lv 4096 W0 D' T' v9 m9 f5 w11 ∧ RowF w11 0 (.slice at6 nt ct6) f5) := ⟨hr11.mono (Nat.zero_le _), H11.out.2.1.grown hb11, H11.out.2.2.below hb11⟩
        clear hr11 hb11 H11
        go_wp2_with fail
        refine (refFields_any _ _ f5 f5 w11 H12.out.1.toSl H12.out.2.2.toSl).mono ?_
        rintro e w12 ⟨rfl, n12, hw12⟩
        rw [decide_eq_true rfl]
        have hb12 : Below w11.heap.size w11 w12 := by rw [hw12]; exact below_drewN (Below.refl _ _) n12
        have H13 : Hid (Lv 4096 W0 D' T' v9 m9 f5 w12 ∧ RowF w12 0 (.slice at6 nt ct6) f5) := ⟨H12.out.2.1.grown hb12, H12.out.2.2.below hb12⟩
        clear hb12 hw12 H12
        go_wp2_with fail
        refine (ds_table H13.out.1.1 (by decide)).mono ?_
        rintro e w13 ⟨t13, rfl, hr13, hb13⟩
        have H14 : Hid (RowF w13 0 t13 f5 ∧ Lv 4096 W0 D' T' v9 m9 f5 w13 ∧ RowF w13 0 (.slice at6 nt ct6) f5) := ⟨hr13.mono (Nat.zero_le _), H13.out.1.grown hb13, H13.out.2.below hb13⟩
        clear hr13 hb13 H13
        go_wp2_with fail
        refine (refFields_any _ _ f5 f5 w13 H14.out.1.toSl H14.out.2.2.toSl).mono ?_
        rintro e w14 ⟨rfl, n14, hw14⟩
        rw [decide_eq_true rfl]
        have hb14 : Below w13.heap.size w13 w14 := by rw [hw14]; exact below_drewN (Below.refl _ _) n14
        have H15 := Lib.hid (H3.out.2.2.2.2.trans ((H14.out.2.1.grown hb14).2.1.mono H3.out.2.2.2.2.size))
        clear hb14 hw14 H14
        go_wp2_with fail
        refine (HAL.out _ H15.out).mono ?_
        rintro e w15 ⟨rfl, hb15⟩
        have HB := Lib.hid (H15.out.trans (hb15.mono H15.out.size))
        clear hb15
        go_wp2_with fail
        go_ret
        exact ⟨rfl, HB.out⟩
set_option maxHeartbeats 1000000 in
/-- **BlockWrites** -/
theorem writes09_any (v u : Value) (l : List Fd) (first : Bool) (ys : List Int) (w : World) (h : SlD w v l) (hs : Sl .u8 w u ys) (hT : ShT w) :
    Calls Tryd.prog 4 #[v, .bool first, u] w fun e w' => e = .returned (.bool true) ∧ Below w.heap.size w w' := by
  by_cases hl : l.length ≤ 20
  · by_cases hy : ys.length ≤ 300
    · exact writes09 v u l first ys w h hs hl hy hT
    · obtain ⟨a, c, hv, _, _⟩ := h.shape
      obtain ⟨a2, c2, hu2, hy1, hy2, _⟩ := hs
      subst hv; subst hu2
      unfold maxLen at hy2
      have HAL := Lib.hid (alive09 w hT)
      obtain ⟨N, hN⟩ : ∃ N, N = l.length := ⟨_, rfl⟩
      obtain ⟨N2, hN2⟩ : ∃ N2, N2 = ys.length := ⟨_, rfl⟩
      rw [← hN] at hl ⊢
      rw [← hN2] at hy hy1 ⊢
      have d0 : decide ((20 : Int) < (N : Int)) = false := decide_eq_false (by omega)
      have d0b : decide (20 < N) = false := decide_eq_false (by omega)
      have d1 : decide ((300 : Int) < (N2 : Int)) = true := decide_eq_true (by omega)
      have d1b : decide (300 < N2) = true := decide_eq_true (by omega)
      clear hl hy hT hN hN2 h
      go_enter Tryd.func4, Tryd.ntmps4
      go_wp2_with fail
      refine (HAL.out).mono ?_
      rintro e w10 ⟨rfl, hb10⟩
      have HB := Lib.hid hb10
      clear hb10
      go_wp2_with fail
      go_ret
      exact ⟨rfl, HB.out⟩
  · obtain ⟨a, c, hv, hv1, hv2⟩ := h.shape
    obtain ⟨a2, c2, hu2, _⟩ := hs
    subst hv; subst hu2
    unfold maxLen at hv2
    have HAL := Lib.hid (alive09 w hT)
    obtain ⟨N, hN⟩ : ∃ N, N = l.length := ⟨_, rfl⟩
    rw [← hN] at hl hv1 ⊢
    have d0 : decide ((20 : Int) < (N : Int)) = true := decide_eq_true (by omega)
    have d0b : decide (20 < N) = true := decide_eq_true (by omega)
    clear hl hT hN h
    go_enter Tryd.func4, Tryd.ntmps4
    go_wp2_with fail
    refine (HAL.out).mono ?_
    rintro e w10 ⟨rfl, hb10⟩
    have HB := Lib.hid hb10
    clear hb10
    go_wp2_with fail
    go_ret
    exact ⟨rfl, HB.out⟩
end Go.Proofs.YtenapfpkegoonaaDoor
