
/-
  Layer 13's live question. (Written by wip/tools/gen13a.py.)
-/
import Derived.Test.YtappehjcbjplaaaInkProg
import Derived.Test.YtappehjcbjplaaaInkRef3
import Derived.Test.YtappehjcbjplaaaRowKit
import Derived.WalkMore
namespace Go.Proofs.Ytappehjcbjplaaa
set_option maxRecDepth 20000
open Go.RowKit

/-- the owners: two intakes, a row of bytes, a block that is kept -/
def alB (Ta : Nat) (Oa : Option Nat) (Tb : Nat) (Ob : Option Nat) (pv : Value) (K : Option (Nat × Obj)) : Nat → Nat → Prop
  | 0, g => g = Ta ∨ Oa = some g
  | 1, g => g = Tb ∨ Ob = some g
  | 2, g => pv.ownBlock = some g
  | 3, g => ∃ o, K = some (g, o)
  | _, _ => False
structure Al (w W : World) (Ta : Nat) (Oa : Option Nat) (n : Nat) (s : Ik) (Tb : Nat) (Ob : Option Nat) (m : Nat) (r : Ik) (pv : Value) (K : Option (Nat × Obj)) : Prop where
  sep : Sep w.heap.size (alB Ta Oa Tb Ob pv K) W
  a : InAt W Ta Oa n s
  b : InAt W Tb Ob m r
  p : Sl .u8 W pv preL
  k : ∀ g o, K = some (g, o) → W.heap[g]? = some o
  bel : Below w.heap.size w W
section
variable {w W W' : World} {Ta n Tb m : Nat} {Oa Ob : Option Nat} {s r : Ik} {pv : Value} {K : Option (Nat × Obj)}
theorem Al.apart (h : Al w W Ta Oa n s Tb Ob m r pv K) (i j : Nat) (hij : i ≠ j) : ∀ g, alB Ta Oa Tb Ob pv K i g → ¬ alB Ta Oa Tb Ob pv K j g := fun g h1 h2 => h.sep.ne i j g hij h1 h2
theorem Al.grown (h : Al w W Ta Oa n s Tb Ob m r pv K) (hb : Below W.heap.size W W') : Al w W' Ta Oa n s Tb Ob m r pv K := by
  have ht := Turn.of_below hb (S := fun _ => False)
  exact ⟨h.sep.grow hb.size, h.a.turn ht id (fun _ _ => id), h.b.turn ht id (fun _ _ => id), h.p.below hb, fun g o e => ht.obj (h.k g o e) id, h.bel.trans (hb.mono h.sep.sz)⟩
theorem Al.stepA {Oa' : Option Nat} {n' : Nat} {s' : Ik} (h : Al w W Ta Oa n s Tb Ob m r pv K) (ht : Turn (fun g => g = Ta ∨ Oa = some g) W W') (ha : InAt W' Ta Oa' n' s') (hO : Oa' = Oa ∨ ∀ g, Oa' = some g → W.heap.size ≤ g) : Al w W' Ta Oa' n' s' Tb Ob m r pv K := by
  have hla := ha.lt
  refine ⟨h.sep.many ht.size (fun i g hg => ?_) (fun i g hg => ?_) (fun i j g hij hge h1 h2 => ?_), ha, h.b.turn ht (h.apart 1 0 (by decide) Tb (.inl rfl)) (fun g hg => h.apart 1 0 (by decide) g (.inr hg)), h.p.turn ht (fun g hg => h.apart 2 0 (by decide) g hg), fun g o e => ht.obj (h.k g o e) (h.apart 3 0 (by decide) g ⟨o, e⟩), h.sep.below 0 ht h.bel⟩
  · match i, hg with
    | 0, .inl e => exact .inl (.inl e)
    | 0, .inr e => exact hO.elim (fun x => .inl (.inr (by rw [← x]; exact e))) (fun f => .inr (f g e))
    | 1, hg => exact .inl hg
    | 2, hg => exact .inl hg
    | 3, hg => exact .inl hg
  · match i, hg with
    | 0, .inl e => rw [e]; exact hla.1
    | 0, .inr e => exact hla.2 g e
    | 1, hg => exact Nat.lt_of_lt_of_le (h.sep.lt 1 g hg) ht.size
    | 2, hg => exact Nat.lt_of_lt_of_le (h.sep.lt 2 g hg) ht.size
    | 3, hg => exact Nat.lt_of_lt_of_le (h.sep.lt 3 g hg) ht.size
  · match j, h2 with
    | 1, h2 => have := h.sep.lt 1 g h2; omega
    | 2, h2 => have := h.sep.lt 2 g h2; omega
    | 3, h2 => have := h.sep.lt 3 g h2; omega
theorem Al.stepB {Ob' : Option Nat} {m' : Nat} {r' : Ik} (h : Al w W Ta Oa n s Tb Ob m r pv K) (ht : Turn (fun g => g = Tb ∨ Ob = some g) W W') (hb : InAt W' Tb Ob' m' r') (hO : Ob' = Ob ∨ ∀ g, Ob' = some g → W.heap.size ≤ g) : Al w W' Ta Oa n s Tb Ob' m' r' pv K := by
  have hlb := hb.lt
  refine ⟨h.sep.many ht.size (fun i g hg => ?_) (fun i g hg => ?_) (fun i j g hij hge h1 h2 => ?_), h.a.turn ht (h.apart 0 1 (by decide) Ta (.inl rfl)) (fun g hg => h.apart 0 1 (by decide) g (.inr hg)), hb, h.p.turn ht (fun g hg => h.apart 2 1 (by decide) g hg), fun g o e => ht.obj (h.k g o e) (h.apart 3 1 (by decide) g ⟨o, e⟩), h.sep.below 1 ht h.bel⟩
  · match i, hg with
    | 1, .inl e => exact .inl (.inl e)
    | 1, .inr e => exact hO.elim (fun x => .inl (.inr (by rw [← x]; exact e))) (fun f => .inr (f g e))
    | 0, hg => exact .inl hg
    | 2, hg => exact .inl hg
    | 3, hg => exact .inl hg
  · match i, hg with
    | 1, .inl e => rw [e]; exact hlb.1
    | 1, .inr e => exact hlb.2 g e
    | 0, hg => exact Nat.lt_of_lt_of_le (h.sep.lt 0 g hg) ht.size
    | 2, hg => exact Nat.lt_of_lt_of_le (h.sep.lt 2 g hg) ht.size
    | 3, hg => exact Nat.lt_of_lt_of_le (h.sep.lt 3 g hg) ht.size
  · match j, h2 with
    | 1, h2 => match i, hij with
      | 0, _ => have := h.sep.lt 0 g h1; omega
    | 2, h2 => have := h.sep.lt 2 g h2; omega
    | 3, h2 => have := h.sep.lt 3 g h2; omega
/-- a block that was just made is kept from now on -/
theorem Al.keep {cs : Array Value} {e : TypeId} (h : Al w W Ta Oa n s Tb Ob m r pv none) : Al w (W.alloc (.cells cs e)) Ta Oa n s Tb Ob m r pv (some (W.heap.size, .cells cs e)) := by
  have hal := (Below.refl W.heap.size W).alloc (Nat.le_refl _) (.cells cs e)
  have ht := Turn.of_below hal (S := fun _ => False)
  refine ⟨h.sep.many hal.size (fun i g hg => ?_) (fun i g hg => ?_) (fun i j g hij hge h1 h2 => ?_), h.a.turn ht id (fun _ _ => id), h.b.turn ht id (fun _ _ => id), h.p.below hal, fun g o eq => ?_, h.bel.trans (hal.mono h.sep.sz)⟩
  · match i, hg with
    | 0, hg => exact .inl hg
    | 1, hg => exact .inl hg
    | 2, hg => exact .inl hg
    | 3, ⟨o, eq⟩ => cases eq; exact .inr (Nat.le_refl _)
  · match i, hg with
    | 0, hg => exact Nat.lt_of_lt_of_le (h.sep.lt 0 g hg) hal.size
    | 1, hg => exact Nat.lt_of_lt_of_le (h.sep.lt 1 g hg) hal.size
    | 2, hg => exact Nat.lt_of_lt_of_le (h.sep.lt 2 g hg) hal.size
    | 3, ⟨o, eq⟩ => cases eq; simp
  · match i, h1 with
    | 0, h1 => have := h.sep.lt 0 g h1; omega
    | 1, h1 => have := h.sep.lt 1 g h1; omega
    | 2, h1 => have := h.sep.lt 2 g h1; omega
    | 3, h1 => match j, hij, h2 with
      | (k + 4), _, h2 => exact h2
  · cases eq
    exact heap_alloc_new W _
theorem Al.new {w1 w2 w3 : World} (hb1 : Below w.heap.size w w1) (hb2 : Below w1.heap.size w1 w2) (hb3 : Below w2.heap.size w2 w3) (hTa : w.heap.size ≤ Ta) (hOa : ∀ g, Oa = some g → w.heap.size ≤ g) (ha : InAt w1 Ta Oa n s)
    (hTb : w1.heap.size ≤ Tb) (hOb : ∀ g, Ob = some g → w1.heap.size ≤ g) (hb : InAt w2 Tb Ob m r) (hp : Sl .u8 w3 pv preL) (hpn : ∀ g, pv.ownBlock = some g → w2.heap.size ≤ g) : Al w w3 Ta Oa n s Tb Ob m r pv none := by
  have hs1 := hb1.size
  have hs2 := hb2.size
  have hs3 := hb3.size
  have hla := ha.lt
  have hlb := hb.lt
  have hlp : ∀ g, pv.ownBlock = some g → g < w3.heap.size := fun g hg => by
    obtain ⟨a, cap, rfl, _, _, _, h3⟩ := hp
    rcases h3 with ⟨h3, _⟩ | ⟨b, off, rfl, hl, _⟩
    · exact absurd h3 (by decide)
    · cases hg; exact hl
  have h0 : Sep w.heap.size (fun _ _ => False) w := ⟨fun _ _ h => h.elim, fun _ _ h => h.elim, fun _ _ _ _ h => h.elim, Nat.le_refl _⟩
  have ht2 := Turn.of_below hb2 (S := fun _ => False)
  have ht3 := Turn.of_below hb3 (S := fun _ => False)
  refine ⟨h0.many (by omega) (fun i g hg => .inr ?_) (fun i g hg => ?_) (fun i j g hij _ h1 h2 => ?_), (ha.turn ht2 id (fun _ _ => id)).turn ht3 id (fun _ _ => id), hb.turn ht3 id (fun _ _ => id), hp, fun _ _ h => (by cases h), (hb1.trans (hb2.mono hs1)).trans (hb3.mono (by omega))⟩
  · match i, hg with
    | 0, .inl e => omega
    | 0, .inr e => exact hOa g e
    | 1, .inl e => omega
    | 1, .inr e => have := hOb g e; omega
    | 2, hg => have := hpn g hg; omega
    | 3, ⟨_, hg⟩ => cases hg
  · match i, hg with
    | 0, .inl e => have := hla.1; omega
    | 0, .inr e => have := hla.2 g e; omega
    | 1, .inl e => have := hlb.1; omega
    | 1, .inr e => have := hlb.2 g e; omega
    | 2, hg => exact hlp g hg
    | 3, ⟨_, hg⟩ => cases hg
  · have ga : alB Ta Oa Tb Ob pv none 0 g → g < w1.heap.size := fun h => by
      rcases h with e | e
      · have := hla.1; omega
      · exact hla.2 g e
    have gb : alB Ta Oa Tb Ob pv none 1 g → w1.heap.size ≤ g ∧ g < w2.heap.size := fun h => by
      rcases h with e | e
      · have := hlb.1; omega
      · exact ⟨hOb g e, hlb.2 g e⟩
    match j, h2 with
    | 1, h2 =>
      obtain rfl : i = 0 := by omega
      have := ga h1; have := gb h2; omega
    | 2, h2 =>
      rcases (by omega : i = 0 ∨ i = 1) with rfl | rfl
      · have := ga h1; have := hpn g h2; omega
      · have := gb h1; have := hpn g h2; omega
    | 3, ⟨_, h2⟩ => cases h2
end
theorem FrN.lit {lo : Nat} {O : Option Nat} {w : World} {v : Value} {k f s : Int} {z : List Int} (h : FrN lo O w v ⟨k, f, s, z⟩) : ∃ a c, v = .agg #[.int .i64 k, .int .i64 f, .int .i64 s, .slice a z.length c] := by
  obtain ⟨pv, rfl, hs, _⟩ := h
  obtain ⟨a, c, rfl, _⟩ := id hs
  exact ⟨a, c, rfl⟩
/-- the intakes' states, one behind the other -/
def t1 : Ik := feedI (Ik.new 16384) (preL.take 20)
def t2 : Ik := feedI (nextIS t1) (preL.drop 20 ++ [0, 0, 1, 6, 0, 0, 0, 0, 3, 9, 0, 64])
def t4 : Ik := feedI (nextIS (nextIS t2)) [1, 0, 0, 0, 0, 0, 0, 0]
def u1 : Ik := feedI (Ik.new 16384) [80, 82, 120]
theorem t1_e : nextIE t1 = 2 := by decide +kernel
theorem t1_f : nextIF t1 = ⟨0, 0, 0, []⟩ := by kernel_rfl
theorem t1_n : (nextIS t1).got.length = 20 := by decide +kernel
theorem t2_e : nextIE t2 = 0 := by decide +kernel
theorem t2_f : nextIF t2 = ⟨6, 0, 3, [9]⟩ := by kernel_rfl
theorem t3_n : (nextIS t2).got.length = 2 := by decide +kernel
theorem t3_e : nextIE (nextIS t2) = 2 := by decide +kernel
theorem t3_f : nextIF (nextIS t2) = ⟨0, 0, 0, []⟩ := by kernel_rfl
theorem t4_e : nextIE t4 = 4 := by decide +kernel
theorem t4_f : nextIF t4 = ⟨0, 0, 0, []⟩ := by kernel_rfl
theorem t5_e : nextIE (nextIS t4) = 4 := by decide +kernel
theorem t5_f : nextIF (nextIS t4) = ⟨0, 0, 0, []⟩ := by kernel_rfl
theorem t6_n : (nextIS (nextIS t4)).got.length = 0 := by decide +kernel
theorem t6_b : (nextIS (nextIS t4)).begun = true := by decide +kernel
theorem u1_e : nextIE u1 = 3 := by decide +kernel
theorem u1_f : nextIF u1 = ⟨0, 0, 0, []⟩ := by kernel_rfl
theorem u2_b : (nextIS u1).begun = false := by decide +kernel
set_option maxHeartbeats 4000000 in
theorem alive13 (w : World) : Calls Try.prog 5 #[] w fun e w' => e = .returned (.bool true) ∧ Below w.heap.size w w' := by
  go_enter Try.func5, Try.ntmps5
  go_wp2_with fail
  refine (pNew_yes 16384 _ (by decide) (by decide)).mono ?_
  rintro e w1 ⟨Ta, Oa, rfl, hTa, hOa, ha, hb1⟩
  have HA := Lib.hid (And.intro hTa (And.intro hOa (And.intro ha hb1)))
  clear hTa hOa ha hb1
  go_wp2_with fail
  refine (pNew_yes 16384 _ (by decide) (by decide)).mono ?_
  rintro e w2 ⟨Tb, Ob, rfl, hTb, hOb, hb, hb2⟩
  have HB := Lib.hid (And.intro hTb (And.intro hOb (And.intro hb hb2)))
  clear hTb hOb hb hb2
  go_wp2_with fail
  refine (pPreface_any _).mono ?_
  rintro e w3 ⟨pv, rfl, hp, hb3, hpn⟩
  have H3 := Lib.hid (Al.new HA.out.2.2.2 HB.out.2.2.2 hb3 HA.out.1 HA.out.2.1 HA.out.2.2.1 HB.out.1 HB.out.2.1 HB.out.2.2.1 hp hpn)
  obtain ⟨ap, cp, rfl, _⟩ := id hp
  clear hp hb3 hpn HA HB
  obtain ⟨vt, hrt, hvt⟩ := H3.out.p.upto Try.sliceR Try.sizeR 20 (by decide) (by decide)
  have HV := Lib.hid (show Sl .u8 w3 vt (preL.take 20) from hvt)
  clear hvt
  simp only [preL_length] at hrt ⊢
  go_wp2_with fail
  refine (pFeed_any Ta _ _ _ _ (preL.take 20) _ H3.out.a HV.out (by decide)).mono ?_
  rintro e w4 ⟨rfl, O4, ha, ht, ho⟩
  have H4 := Lib.hid (H3.out.stepA ht (show InAt w4 Ta O4 _ t1 from ha) ho)
  clear ha ht ho
  clear hrt HV
  go_wp2_with fail
  refine (pNext_any Ta _ _ _ _ H4.out.a (by decide)).mono ?_
  rintro e w5 ⟨fv, O5, rfl, hF, ha, ht, ho⟩
  rw [t1_f] at hF
  rw [t1_e]
  obtain ⟨a5, c5, rfl⟩ := hF.lit
  have G5 := Lib.hid (H4.out.stepA ht ha ho)
  have H5 := Lib.hid (G5.out.grown ((Below.refl w5.heap.size w5).alloc (Nat.le_refl _) (.cells #[.int .i64 0, .int .i64 0, .int .i64 0, .slice a5 0 c5] 36)))
  clear hF ha ht ho
  go_wp2_with fail
  refine (pLen_any Ta _ _ _ _ H5.out.a).mono ?_
  rintro e w6 ⟨rfl, hb⟩
  rw [t1_n]
  have H6 := Lib.hid (H5.out.grown hb)
  clear hb
  obtain ⟨vd, hrd, hvd⟩ := H6.out.p.from_ Try.sliceR Try.sizeR 20 (by decide) (by decide)
  have HD := Lib.hid (show Sl .u8 w6 vd (preL.drop 20) from hvd)
  clear hvd
  simp only [preL_length] at hrd
  have hemp : (w6.alloc (.cells #[] 5)).ownsRow w6.heap.size 5 1 (.slice (some ⟨w6.heap.size, 0, none⟩) 0 0) 0 (([] : List Int).map (Value.int .u8)) := World.ownsRow_made _ _ 0 (Nat.le_refl _) (by decide) rfl
  go_wp2_with first
    | (at_builtin; refine app_ints rfl (.tmp 52) (.tmp 54) 30 rfl w6.heap.size 5 .u8 1 Try.underlying30 Try.info5' _ 0 [] rfl hemp _ (preL.drop 20) rfl (HD.out.alloc _) (by decide) (by decide) (by simp) ?_; intro v8 x8 hO8 hc8 hg8; obtain ⟨a8, c8, rfl, _⟩ := owned_shape hO8; have hz8 : w6.heap.size ≤ x8.heap.size := by (have := hc8.size; simp at this; omega))
    | (at_builtin; refine app_ints rfl (.tmp 55) (.tmp 56) 30 rfl w6.heap.size 5 .u8 1 Try.underlying30 Try.info5' _ _ (preL.drop 20) rfl (hO8.alloc _) _ [0, 0, 1, 6, 0, 0, 0, 0, 3, 9, 0, 64] rfl (Sl.lit [0, 0, 1, 6, 0, 0, 0, 0, 3, 9, 0, 64] rfl rfl rfl (by decide) (by decide)) (by decide) (by decide) (by simp; omega) ?_; intro v9 x9 hO9 hc9 hg9; obtain ⟨a9, c9, rfl, _⟩ := owned_shape hO9)
  have hb9 : Below w6.heap.size w6 x9 := ((((Below.refl _ _).alloc (Nat.le_refl _) (.cells #[] 5)).trans hc8).alloc hz8 _).trans hc9
  have HF := Lib.hid (show Sl .u8 x9 _ (preL.drop 20 ++ [0, 0, 1, 6, 0, 0, 0, 0, 3, 9, 0, 64]) from Sl.of_own hO9 (by intro n hn; revert n; decide) (by decide))
  have H7 := Lib.hid (H6.out.grown hb9)
  clear hO8 hc8 hg8 hz8 hO9 hc9 hg9 hb9 hemp hrd HD
  refine (pFeed_any Ta _ _ _ _ (preL.drop 20 ++ [0, 0, 1, 6, 0, 0, 0, 0, 3, 9, 0, 64]) _ H7.out.a HF.out (by decide)).mono ?_
  rintro e w8 ⟨rfl, O8, ha, ht, ho⟩
  have H8 := Lib.hid (H7.out.stepA ht (show InAt w8 Ta O8 _ t2 from ha) ho)
  clear ha ht ho
  clear HF
  go_wp2_with fail
  refine (pNext_any Ta _ _ _ _ H8.out.a (by decide)).mono ?_
  rintro e w9 ⟨fv, O9, rfl, hF, ha, ht, ho⟩
  rw [t2_f] at hF
  rw [t2_e]
  obtain ⟨a9, c9, rfl⟩ := hF.lit
  have G9 := Lib.hid (H8.out.stepA ht ha ho)
  have H9 := Lib.hid (G9.out.keep (cs := #[.int .i64 6, .int .i64 0, .int .i64 3, .slice a9 1 c9]) (e := 36))
  clear hF ha ht ho
  go_wp2_with fail
  refine (pLen_any Ta _ _ _ _ H9.out.a).mono ?_
  rintro e w10 ⟨rfl, hb⟩
  rw [t3_n]
  have H10 := Lib.hid (H9.out.grown hb)
  clear hb
  go_wp2_with fail
  refine (pNext_any Ta _ _ _ _ H10.out.a (by decide)).mono ?_
  rintro e w11 ⟨fv, O11, rfl, hF, ha, ht, ho⟩
  rw [t3_f] at hF
  rw [t3_e]
  obtain ⟨a11, c11, rfl⟩ := hF.lit
  have G11 := Lib.hid (H10.out.stepA ht ha ho)
  have H11 := Lib.hid (G11.out.grown ((Below.refl w11.heap.size w11).alloc (Nat.le_refl _) (.cells #[.int .i64 0, .int .i64 0, .int .i64 0, .slice a11 0 c11] 36)))
  clear hF ha ht ho
  go_wp2_with fail
  have hal := (Below.refl _ _).alloc (Nat.le_refl _) (.cells #[.int .u8 1, .int .u8 0, .int .u8 0, .int .u8 0, .int .u8 0, .int .u8 0, .int .u8 0, .int .u8 0] 5) (w := w11.alloc (.cells #[.int .i64 0, .int .i64 0, .int .i64 0, .slice a11 0 c11] 36))
  have H12 := Lib.hid (H11.out.grown hal)
  clear hal
  refine (pFeed_any Ta _ _ _ (.slice (some ⟨w11.heap.size + 1, 0, none⟩) 8 8) [1, 0, 0, 0, 0, 0, 0, 0] _ H12.out.a (Sl.lit [1, 0, 0, 0, 0, 0, 0, 0] (by simp) rfl rfl (by decide) (by decide)) (by decide)).mono ?_
  rintro e w13 ⟨rfl, O13, ha, ht, ho⟩
  have H13 := Lib.hid (H12.out.stepA ht (show InAt w13 Ta O13 _ t4 from ha) ho)
  clear ha ht ho
  go_wp2_with fail
  refine (pNext_any Ta _ _ _ _ H13.out.a (by decide)).mono ?_
  rintro e w14 ⟨fv, O14, rfl, hF, ha, ht, ho⟩
  rw [t4_f] at hF
  rw [t4_e]
  obtain ⟨a14, c14, rfl⟩ := hF.lit
  have G14 := Lib.hid (H13.out.stepA ht ha ho)
  have H14 := Lib.hid (G14.out.grown ((Below.refl w14.heap.size w14).alloc (Nat.le_refl _) (.cells #[.int .i64 0, .int .i64 0, .int .i64 0, .slice a14 0 c14] 36)))
  clear hF ha ht ho
  go_wp2_with fail
  refine (pNext_any Ta _ _ _ _ H14.out.a (by decide)).mono ?_
  rintro e w15 ⟨fv, O15, rfl, hF, ha, ht, ho⟩
  rw [t5_f] at hF
  rw [t5_e]
  obtain ⟨a15, c15, rfl⟩ := hF.lit
  have G15 := Lib.hid (H14.out.stepA ht ha ho)
  have H15 := Lib.hid (G15.out.grown ((Below.refl w15.heap.size w15).alloc (Nat.le_refl _) (.cells #[.int .i64 0, .int .i64 0, .int .i64 0, .slice a15 0 c15] 36)))
  clear hF ha ht ho
  have hcv := Go.Joins.run_convert_bytes_const_at (P := Try.prog) (w15.alloc (.cells #[.int .i64 0, .int .i64 0, .int .i64 0, .slice a15 0 c15] 36)) 30 5 #[.int .u8 80, .int .u8 82, .int .u8 120] 3 3 (w15.heap.size + 1) (by simp) Try.underlying30 Try.underlying5
  obtain ⟨w16, hW⟩ : ∃ W, (w15.alloc (.cells #[.int .i64 0, .int .i64 0, .int .i64 0, .slice a15 0 c15] 36)).alloc (.cells #[.int .u8 80, .int .u8 82, .int .u8 120] 5 ((#[.int .u8 80, .int .u8 82, .int .u8 120] : Array Value).size, (#[.int .u8 80, .int .u8 82, .int .u8 120] : Array Value).size + 1)) = W := ⟨_, rfl⟩
  have hal := (Below.refl (w15.alloc (.cells #[.int .i64 0, .int .i64 0, .int .i64 0, .slice a15 0 c15] 36)).heap.size (w15.alloc (.cells #[.int .i64 0, .int .i64 0, .int .i64 0, .slice a15 0 c15] 36))).alloc (Nat.le_refl _) (.cells #[.int .u8 80, .int .u8 82, .int .u8 120] 5 ((#[.int .u8 80, .int .u8 82, .int .u8 120] : Array Value).size, (#[.int .u8 80, .int .u8 82, .int .u8 120] : Array Value).size + 1))
  have HS := Lib.hid (show Sl .u8 w16 (.slice (some ⟨w15.heap.size + 1, 0, none⟩) 3 3) [80, 82, 120] from by
    refine ⟨_, 3, rfl, by decide, by decide, by intro n hn; revert n; decide, .inr ⟨_, 0, rfl, by rw [← hW]; simp, fun i hi => ?_⟩⟩
    rw [Nat.zero_add, ← hW, Go.Joins.cell_alloc_mark_at _ _ _ _ _ _ (by simp)]
    match i, hi with
    | 0, _ => rfl
    | 1, _ => rfl
    | 2, _ => rfl)
  rw [hW] at hcv hal
  have H16 := Lib.hid (H15.out.grown hal)
  clear hal hW
  go_wp2_with fail
  refine (pFeed_any Tb _ _ _ _ [80, 82, 120] _ H16.out.b HS.out (by decide)).mono ?_
  rintro e w17 ⟨rfl, O17, ha, ht, ho⟩
  have H17 := Lib.hid (H16.out.stepB ht (show InAt w17 Tb O17 _ u1 from ha) ho)
  clear ha ht ho
  clear HS hcv
  go_wp2_with fail
  refine (pNext_any Tb _ _ _ _ H17.out.b (by decide)).mono ?_
  rintro e w18 ⟨fv, O18, rfl, hF, ha, ht, ho⟩
  rw [u1_f] at hF
  rw [u1_e]
  obtain ⟨a18, c18, rfl⟩ := hF.lit
  have G18 := Lib.hid (H17.out.stepB ht ha ho)
  have H18 := Lib.hid (G18.out.grown ((Below.refl w18.heap.size w18).alloc (Nat.le_refl _) (.cells #[.int .i64 0, .int .i64 0, .int .i64 0, .slice a18 0 c18] 36)))
  clear hF ha ht ho
  go_wp2_with fail
  refine (pNew_no 16383 _ (by decide)).mono ?_
  rintro e w19 ⟨rfl, hb⟩
  have H19 := Lib.hid (H18.out.grown hb)
  clear hb
  have hk := H19.out.k _ _ rfl
  have x0 := blk_cell (j := 0) hk rfl
  have x2 := blk_cell (j := 2) hk rfl
  have x3 := blk_cell (j := 3) hk rfl
  clear hk
  go_wp2_with fail
  refine (pLen_any Ta _ _ _ _ H19.out.a).mono ?_
  rintro e w20 ⟨rfl, hb⟩
  rw [t6_n]
  have H20 := Lib.hid (H19.out.grown hb)
  clear hb x0 x2 x3
  go_wp2_with fail
  refine (pBegun_any Ta _ _ _ _ H20.out.a).mono ?_
  rintro e w21 ⟨rfl, hb⟩
  rw [t6_b]
  have H21 := Lib.hid (H20.out.grown hb)
  clear hb
  go_wp2_with fail
  refine (pBegun_any Tb _ _ _ _ H21.out.b).mono ?_
  rintro e w22 ⟨rfl, hb⟩
  rw [u2_b]
  have H22 := Lib.hid (H21.out.grown hb)
  clear hb
  obtain ⟨bp, op, rfl, hbp, y0⟩ := H22.out.p.cell_at 0 (by decide)
  have y23 := H22.out.p.at_ 23 (by decide)
  rw [show at0 preL 0 = 80 from rfl] at y0
  rw [show at0 preL 23 = 10 from rfl] at y23
  simp only [Nat.add_zero] at y0
  go_wp2_with fail
  go_ret
  exact ⟨rfl, H22.out.bel⟩
end Go.Proofs.Ytappehjcbjplaaa
