/-
  Several texts of mine, one behind the other: Law20db, Law20dc, Law20dd, Law20de, Law20e.
-/
import Derived.Test.YtnoegbdmjinfjaaMgK

/-
  Layer 20: SendWhole: rounds of kinds 2, 3 (written by wip/tools/gen20x.py).
-/
namespace Go.Proofs.Ytnoegbdmjinfjaa
set_option maxRecDepth 20000
open Go.RowKit

set_option maxRecDepth 1000000 in
set_option maxHeartbeats 8000000 in
theorem wh_k2 (w1 : World) (T : Nat) (cap id : Int) (ys : List A20) (N c : Nat) (ad : Option Addr) (c3 c4 c5 c7 c9 c23 c24 c25 c26 c27 c28 c29 c30 c31 c32 c33 c34 c35 c36 c37 c38 c39 c185 : Value) (n : Nat) (wr : World) (K : Act → World → Prop) (Q : Exit → Act → World → Prop) (k : Nat) (s : Sd) (B : Nat → Prop) (d : List Int) (dv : Value) (h w : Int) (l : Bool)
    (u6 u15 u16 u17 u18 u19 u20 u21 u22 u40 u41 u42 u43 u44 u45 u46 u47 u48 u49 u50 u51 u52 u53 u54 u55 u56 u57 u58 u59 u60 u61 u62 u63 u64 u65 u66 u67 u68 u69 u70 u71 u72 u73 u74 u75 u76 u77 u78 u79 u80 u81 u82 u83 u84 u85 u86 u87 u88 u89 u90 u91 u92 u93 u94 u95 u96 u97 u98 u99 u100 u101 u102 u103 u104 u105 u106 u107 u108 u109 u110 u111 u112 u113 u114 u115 u116 u117 u118 u119 u120 u121 u122 u123 u124 u125 u126 u127 u128 u129 u130 u131 u132 u133 u134 u135 u136 u137 u138 u139 u140 u141 u142 u143 u144 u145 u146 u147 u148 u149 u150 u151 u152 u153 u154 u155 u156 u157 u158 u159 u160 u161 u162 u163 u164 u165 u166 u167 u168 u169 u170 u171 u172 u173 u174 u175 u176 u177 u178 u179 u180 u181 u182 u183 u184 : Value)
    (hK : Hid (∀ (m : Nat) (u6 u10 u11 u12 u13 u14 u15 u16 u17 u18 u19 u20 u21 u22 u40 u41 u42 u43 u44 u45 u46 u47 u48 u49 u50 u51 u52 u53 u54 u55 u56 u57 u58 u59 u60 u61 u62 u63 u64 u65 u66 u67 u68 u69 u70 u71 u72 u73 u74 u75 u76 u77 u78 u79 u80 u81 u82 u83 u84 u85 u86 u87 u88 u89 u90 u91 u92 u93 u94 u95 u96 u97 u98 u99 u100 u101 u102 u103 u104 u105 u106 u107 u108 u109 u110 u111 u112 u113 u114 u115 u116 u117 u118 u119 u120 u121 u122 u123 u124 u125 u126 u127 u128 u129 u130 u131 u132 u133 u134 u135 u136 u137 u138 u139 u140 u141 u142 u143 u144 u145 u146 u147 u148 u149 u150 u151 u152 u153 u154 u155 u156 u157 u158 u159 u160 u161 u162 u163 u164 u165 u166 u167 u168 u169 u170 u171 u172 u173 u174 u175 u176 u177 u178 u179 u180 u181 u182 u183 u184 : Value) (w2 : World), m < n → wh_R w1 T cap id ys N c ad m u10 u11 u12 u13 u14 w2 → K ⟨#[.int .u16 cap, .slice ad N c, .int .i64 id, c3, c4, c5, u6, c7, .pointer (some ⟨T, 0, none⟩), c9, u10, u11, u12, u13, u14, u15, u16, u17, u18, u19, u20, u21, u22, c23, c24, c25, c26, c27, c28, c29, c30, c31, c32, c33, c34, c35, c36, c37, c38, c39, u40, u41, u42, u43, u44, u45, u46, u47, u48, u49, u50, u51, u52, u53, u54, u55, u56, u57, u58, u59, u60, u61, u62, u63, u64, u65, u66, u67, u68, u69, u70, u71, u72, u73, u74, u75, u76, u77, u78, u79, u80, u81, u82, u83, u84, u85, u86, u87, u88, u89, u90, u91, u92, u93, u94, u95, u96, u97, u98, u99, u100, u101, u102, u103, u104, u105, u106, u107, u108, u109, u110, u111, u112, u113, u114, u115, u116, u117, u118, u119, u120, u121, u122, u123, u124, u125, u126, u127, u128, u129, u130, u131, u132, u133, u134, u135, u136, u137, u138, u139, u140, u141, u142, u143, u144, u145, u146, u147, u148, u149, u150, u151, u152, u153, u154, u155, u156, u157, u158, u159, u160, u161, u162, u163, u164, u165, u166, u167, u168, u169, u170, u171, u172, u173, u174, u175, u176, u177, u178, u179, u180, u181, u182, u183, u184, c185], []⟩ w2))
    (hQ : Hid (∀ c (a : Act) (d : Tmp) (v : Value) (w : World), Q (.panic c) (a.put (some d) v) w → Q (.panic c) a w)) (HN : Hid (ys.length = N ∧ N ≤ 100)) (HS : Hid (SlA20 w1 (.slice ad N c) ys)) (HFX : Hid (∀ x ∈ ys, x.b.1.length ≤ 300)) (hc1 : N ≤ c) (hc2 : c ≤ 2 ^ 63 - 1) (HC : Hid (0 ≤ cap ∧ cap ≤ 65535)) (hkq : k + n = N) (HP : Hid (Wh20 w1 wr T B s cap id k d dv h l w)) (hlt : k < N) (hkind : ∀ x : A20, ys[k]? = some x → x.k % 10 = 2) :
    Code.wp Try.prog wh_body (Exit.then K Q) ⟨#[.int .u16 cap, .slice ad N c, .int .i64 id, c3, c4, c5, u6, c7, .pointer (some ⟨T, 0, none⟩), c9, dv, .int .i64 h, .bool l, .int .i64 w, .int .i64 (k : Int), u15, u16, u17, u18, u19, u20, u21, u22, c23, c24, c25, c26, c27, c28, c29, c30, c31, c32, c33, c34, c35, c36, c37, c38, c39, u40, u41, u42, u43, u44, u45, u46, u47, u48, u49, u50, u51, u52, u53, u54, u55, u56, u57, u58, u59, u60, u61, u62, u63, u64, u65, u66, u67, u68, u69, u70, u71, u72, u73, u74, u75, u76, u77, u78, u79, u80, u81, u82, u83, u84, u85, u86, u87, u88, u89, u90, u91, u92, u93, u94, u95, u96, u97, u98, u99, u100, u101, u102, u103, u104, u105, u106, u107, u108, u109, u110, u111, u112, u113, u114, u115, u116, u117, u118, u119, u120, u121, u122, u123, u124, u125, u126, u127, u128, u129, u130, u131, u132, u133, u134, u135, u136, u137, u138, u139, u140, u141, u142, u143, u144, u145, u146, u147, u148, u149, u150, u151, u152, u153, u154, u155, u156, u157, u158, u159, u160, u161, u162, u163, u164, u165, u166, u167, u168, u169, u170, u171, u172, u173, u174, u175, u176, u177, u178, u179, u180, u181, u182, u183, u184, c185], []⟩ wr := by
  conv => arg 2; whnf
  have HKQ := Lib.hid hkq
  have hk : k ≤ N := by omega
  obtain ⟨hcl, hch⟩ := HC.out
  have hwc : IntKind.i64.wrap cap = cap := wrap_i64_small (by omega) (by omega)
  clear hkq
  obtain ⟨x, hx⟩ : ∃ x, ys[k]? = some x := ⟨ys[k]'(by rw [HN.out.1]; exact hlt), List.getElem?_eq_getElem (by rw [HN.out.1]; exact hlt)⟩
  obtain ⟨ab, off, rfl, _⟩ := HS.out.1.at_ (i := k) (by rw [HN.out.1]; exact hlt)
  have HCl := Lib.hid (act_cells HS.out HN.out.1 hx)
  have hmem := List.mem_of_getElem? hx
  have HKd := Lib.hid (hkind _ hx)
  have HX := Lib.hid (HS.out.2 _ hmem)
  have HLb := Lib.hid (HFX.out _ hmem)
  obtain ⟨xk, xi, xn, xm, ⟨xb, bv⟩, xl⟩ := x
  have hsl := HX.out.s
  dsimp only at hsl HLb
  obtain ⟨xa, xc, rfl, _⟩ := hsl
  have hx0 := HX.out.k0
  have hx1 := HX.out.k1
  dsimp only at hx0 hx1
  have hdl := HP.out.dl
  obtain ⟨da, dc, rfl, hdcap, hdmax, _⟩ := (show _ from HP.out.sl)
  unfold maxLen at hdmax
  have HSm := Lib.hid (HP.out.j.i.small (by have := HN.out.2; omega))
  have hix := fun q => run_index_sl (P := Try.prog) (t := 22) (s := 6) slice20 (fun _ => by kernel_rfl) ab off N c k hlt q
  clear hmem hx hkind
  obtain ⟨c0, c1, c2, c3, c4, c5, c6⟩ := HCl.out wr HP.out.b
  obtain ⟨W2, hW2⟩ : ∃ W2, wr.alloc (.cells #[.int .u8 xk, .int .i64 xi, .int .i64 xn, .int .i64 xm, .slice xa xb.length xc, .bool xl] 39) = W2 := ⟨_, rfl⟩
  obtain ⟨g15, hg15⟩ : ∃ g, wr.heap.size = g := ⟨_, rfl⟩
  have hb2 : Below wr.heap.size wr W2 := by rw [← hW2]; exact (Below.refl _ _).alloc (Nat.le_refl _) _
  have hz2 : W2.heap[g15]? = some (.cells #[.int .u8 xk, .int .i64 xi, .int .i64 xn, .int .i64 xm, .slice xa xb.length xc, .bool xl] 39 (0, 0)) := by rw [← hW2, ← hg15]; exact heap_alloc_new _ _
  have HM2 := Lib.hid (show SdAt W2 T B s ∧ Below w1.heap.size w1 W2 ∧ W2.heap[g15]? = some (.cells #[.int .u8 xk, .int .i64 xi, .int .i64 xn, .int .i64 xm, .slice xa xb.length xc, .bool xl] 39 (0, 0)) ∧ ¬ B g15 ∧ Sl .u8 W2 (.slice da d.length dc) d from
    ⟨HP.out.p.turn (Turn.of_below hb2 (S := fun _ => False)) (fun _ _ e => e), HP.out.b.trans (hb2.mono HP.out.b.size), hz2, fun e => by have := HP.out.p.lt e; omega, HP.out.sl.below hb2⟩)
  have y0 : W2.cell? ⟨g15, 0, none⟩ = some (.int .u8 xk) := blk_cell (j := 0) hz2 rfl
  have y1 : W2.cell? ⟨g15, 1, none⟩ = some (.int .i64 xi) := blk_cell (j := 1) hz2 rfl
  have y2 : W2.cell? ⟨g15, 2, none⟩ = some (.int .i64 xn) := blk_cell (j := 2) hz2 rfl
  have y3 : W2.cell? ⟨g15, 3, none⟩ = some (.int .i64 xm) := blk_cell (j := 3) hz2 rfl
  have y4 : W2.cell? ⟨g15, 4, none⟩ = some (.slice xa xb.length xc) := blk_cell (j := 4) hz2 rfl
  have y5 : W2.cell? ⟨g15, 5, none⟩ = some (.bool xl) := blk_cell (j := 5) hz2 rfl
  have y6 := (Array.getElem?_eq_some_iff.1 hz2).1
  clear hb2 hz2
  go_wp2_with fail
  refine (said20_any T B s ⟨xk, xi, xn, xm, (xb, .slice xa xb.length xc), xl⟩ W2 HM2.out.1 (HX.out.below HM2.out.2.1) HSm.out (by have := HLb.out; dsimp only; omega) (fun h1 g hg e => by have := HX.out.s.lt0 h1 hg; have := HP.out.gB g e; omega)).mono ?_
  rintro e w3 ⟨pv, B2, rfl, hp, hpb, hs2, ht2, hB2⟩
  obtain ⟨s2, hq⟩ : ∃ s2, aQ s ⟨xk, xi, xn, xm, (xb, .slice xa xb.length xc), xl⟩ = s2 := ⟨_, rfl⟩
  obtain ⟨F, hF⟩ : ∃ F, aF s ⟨xk, xi, xn, xm, (xb, .slice xa xb.length xc), xl⟩ = F := ⟨_, rfl⟩
  obtain ⟨N0, hN0⟩ : ∃ x, aN s ⟨xk, xi, xn, xm, (xb, .slice xa xb.length xc), xl⟩ = x := ⟨_, rfl⟩
  obtain ⟨I0, hI0⟩ : ∃ x, aI s ⟨xk, xi, xn, xm, (xb, .slice xa xb.length xc), xl⟩ = x := ⟨_, rfl⟩
  obtain ⟨E0, hE0⟩ : ∃ x, aE s ⟨xk, xi, xn, xm, (xb, .slice xa xb.length xc), xl⟩ = x := ⟨_, rfl⟩
  rw [hF] at hp hpb
  rw [hq] at hs2
  rw [hF, hN0, hI0, hE0]
  have HE := Lib.hid (And.intro hF (And.intro hN0 (And.intro hI0 (And.intro hE0 hq))))
  clear hF hN0 hI0 hE0 hq
  obtain ⟨fk, fl, fs, fp⟩ := F
  dsimp only at hp hpb HE ⊢
  obtain ⟨pa, pc, rfl, _⟩ := (show _ from hp)
  obtain ⟨W4, hW4⟩ : ∃ W4, w3.alloc (.cells #[.int .i64 fk, .int .i64 fl, .int .i64 fs, .slice pa fp.length pc, .int .i64 N0, .bool I0, .int .i64 E0] 36) = W4 := ⟨_, rfl⟩
  obtain ⟨g16, hg16⟩ : ∃ g, w3.heap.size = g := ⟨_, rfl⟩
  have hb4 : Below w3.heap.size w3 W4 := by rw [← hW4]; exact (Below.refl _ _).alloc (Nat.le_refl _) _
  have hz4 : W4.heap[g16]? = some (.cells #[.int .i64 fk, .int .i64 fl, .int .i64 fs, .slice pa fp.length pc, .int .i64 N0, .bool I0, .int .i64 E0] 36 (0, 0)) := by rw [← hW4, ← hg16]; exact heap_alloc_new _ _
  have HM4 := Lib.hid (show Md20 w1 W4 T B2 s2 d (.slice da d.length dc) g15 g16 #[.int .u8 xk, .int .i64 xi, .int .i64 xn, .int .i64 xm, .slice xa xb.length xc, .bool xl] #[.int .i64 fk, .int .i64 fl, .int .i64 fs, .slice pa fp.length pc, .int .i64 N0, .bool I0, .int .i64 E0] from by
    have hb3 := ht2.base HM2.out.2.1 HM2.out.2.1.size HP.out.gB
    refine ⟨hs2.turn (Turn.of_below hb4 (S := fun _ => False)) (fun _ _ e => e), hb3.trans (hb4.mono hb3.size), fun g hg => (hB2 g hg).elim (HP.out.gB g) (Nat.le_trans HM2.out.2.1.size), (HM2.out.2.2.2.2.turn0 ht2 HP.out.nb).below hb4, fun h1 g hg e => ?_, (Turn.of_below hb4 (S := fun _ => False)).obj (ht2.obj HM2.out.2.2.1 HM2.out.2.2.2.1) (fun e => e), hz4⟩
    rcases hB2 g e with e | e
    · exact HP.out.nb h1 g hg e
    · have := HM2.out.2.2.2.2.lt0 h1 hg; omega)
  have HPv := Lib.hid (hp.below hb4)
  have HJ' := Lib.hid (HP.out.j)
  clear hs2 ht2 hB2 hp hpb c0 c1 c2 c3 c4 c5 c6 y0 y1 y2 y3 y4 y5 y6 hb4 hz4 hW2
  have HI2 := Lib.hid (show Inv20 (k + 1) s2 from by rw [← HE.out.2.2.2.2]; exact HP.out.j.i.act HLb.out)
  have HS2 := Lib.hid (HI2.out.small (by have := HN.out.2; omega))
  have HSum := Lib.hid (show (sumB s2.l : Int) ≤ cap from by rw [← HE.out.2.2.2.2]; exact sum_act HP.out.j HLb.out)
  have hsum := HSum.out
  have dq : decide (cap < (sumB s2.l : Int)) = false := decide_eq_false (by omega)
  have dq0 : decide ((sumB s2.l : Int) < 0) = false := decide_eq_false (by omega)
  go_wp2_with fail
  refine (pWaiting20 HM4.out.p HS2.out).mono ?_
  rintro e w5 ⟨rfl, hb5⟩
  have HM5 := Lib.hid (And.intro (HM4.out.grown hb5) (HPv.out.below hb5))
  clear hb5 hW4 hg16 hg15
  go_wp2_with fail
  refine (pWaiting20 HM5.out.1.p HS2.out).mono ?_
  rintro e w6 ⟨rfl, hb6⟩
  have HM := Lib.hid (HM5.out.1.grown hb6)
  have HPy := Lib.hid (HM5.out.2.below hb6)
  clear hb6
  have y0 : w6.cell? ⟨g15, 0, none⟩ = some (.int .u8 xk) := blk_cell (j := 0) HM.out.z15 rfl
  have y1 : w6.cell? ⟨g15, 1, none⟩ = some (.int .i64 xi) := blk_cell (j := 1) HM.out.z15 rfl
  have y2 : w6.cell? ⟨g15, 2, none⟩ = some (.int .i64 xn) := blk_cell (j := 2) HM.out.z15 rfl
  have y3 : w6.cell? ⟨g15, 3, none⟩ = some (.int .i64 xm) := blk_cell (j := 3) HM.out.z15 rfl
  have y4 : w6.cell? ⟨g15, 4, none⟩ = some (.slice xa xb.length xc) := blk_cell (j := 4) HM.out.z15 rfl
  have y5 : w6.cell? ⟨g15, 5, none⟩ = some (.bool xl) := blk_cell (j := 5) HM.out.z15 rfl
  have y6 := (Array.getElem?_eq_some_iff.1 HM.out.z15).1
  have z0 : w6.cell? ⟨g16, 0, none⟩ = some (.int .i64 fk) := blk_cell (j := 0) HM.out.z16 rfl
  have z1 : w6.cell? ⟨g16, 1, none⟩ = some (.int .i64 fl) := blk_cell (j := 1) HM.out.z16 rfl
  have z2 : w6.cell? ⟨g16, 2, none⟩ = some (.int .i64 fs) := blk_cell (j := 2) HM.out.z16 rfl
  have z3 : w6.cell? ⟨g16, 3, none⟩ = some (.slice pa fp.length pc) := blk_cell (j := 3) HM.out.z16 rfl
  have z4 : w6.cell? ⟨g16, 4, none⟩ = some (.int .i64 N0) := blk_cell (j := 4) HM.out.z16 rfl
  have z5 : w6.cell? ⟨g16, 5, none⟩ = some (.bool I0) := blk_cell (j := 5) HM.out.z16 rfl
  have z6 : w6.cell? ⟨g16, 6, none⟩ = some (.int .i64 E0) := blk_cell (j := 6) HM.out.z16 rfl
  have z7 := (Array.getElem?_eq_some_iff.1 HM.out.z16).1
  clear hsum
  have HLt := Lib.hid hlt
  have hj : xk % 10 = 2 := HKd.out
  have e0 : (xk % 10 == 0) = false := by rw [hj]; rfl
  have e1 : (xk % 10 == 1) = false := by rw [hj]; rfl
  have e2 : (xk % 10 == 2) = true := by rw [hj]; rfl
  have e3 : (xk % 10 == 3) = false := by rw [hj]; rfl
  have e4 : (xk % 10 == 4) = false := by rw [hj]; rfl
  have e5 : (xk % 10 == 5) = false := by rw [hj]; rfl
  have e7 : decide (7 ≤ xk % 10) = false := by rw [hj]; rfl
  have HJ := Lib.hid hj
  by_cases hid : xi = id
  · by_cases he : E0 = 0
    · have ei : (xi != id) = false := by rw [bne_eq_false_iff_eq]; exact hid
      have ee : (E0 != 0) = false := by rw [bne_eq_false_iff_eq]; exact he
      have HId := Lib.hid (And.intro hid he)
      clear hid he
      go_wp2_with fail
      refine wp_region_held (S := fun w' => w'.cell? ⟨g15, 4, none⟩ = some (.slice xa xb.length xc)) (by kernel_rfl) ?_
      have HB7 := Lib.hid (show Below w6.heap.size w6 ({ w6 with drawn := w6.drawn + 1 } : World) from (Below.refl _ _).drew)
      generalize ({ w6 with drawn := w6.drawn + 1 } : World) = w7 at HB7 ⊢
      have HSt := Lib.hid (show ∀ W, Below w6.heap.size w6 W → W.cell? ⟨g15, 4, none⟩ = some (.slice xa xb.length xc) from fun W hb => blk_cell (j := 4) (HM.out.grown hb).z15 rfl)
      clear y0 y1 y2 y3 y4 y5 y6 z0 z1 z2 z3 z4 z5 z6 z7
      have s1 := HSt.out w7 HB7.out
      refine wpAnyH_early 1 168 (.slice da d.length dc) (by kernel_rfl) (by kernel_rfl) (by kernel_rfl) (fun c a w h => hQ.out c a _ _ w h) rfl (fun o ho => by obtain rfl := Option.some.inj ho; exact .inl ⟨rfl, fun W hS => rfl⟩) s1 ?_
      simp only [Act.put, List.setIfInBounds_toArray, List.set_cons_zero, List.set_cons_succ]
      refine wpAnyH_early 3 170 (.pointer (some ⟨g15, 4, none⟩)) (by kernel_rfl) (by kernel_rfl) (by kernel_rfl) (fun c a w h => hQ.out c a _ _ w h) rfl (fun o ho => by obtain rfl := Option.some.inj ho; exact .inl ⟨rfl, fun W hS => by simp [execOp, go_sem]⟩) s1 ?_
      simp only [Act.put, List.setIfInBounds_toArray, List.set_cons_zero, List.set_cons_succ]
      refine wpAnyH_early 4 171 (.slice xa xb.length xc) (by kernel_rfl) (by kernel_rfl) (by kernel_rfl) (fun c a w h => hQ.out c a _ _ w h) rfl (fun o ho => by obtain rfl := Option.some.inj ho; exact .inl ⟨rfl, fun W hS => by simp [execOp, go_sem, hS]⟩) s1 ?_
      simp only [Act.put, List.setIfInBounds_toArray, List.set_cons_zero, List.set_cons_succ]
      refine wpAnyH_only 0 (by kernel_rfl) rfl (fun o ho => ?_)
      obtain rfl := Option.some.inj ho
      refine wp_of_gives (R := fun v w' => ∃ C, v = .slice (some ⟨C, 0, none⟩) 0 0 ∧ w'.ownsRow w6.heap.size 5 1 (.slice (some ⟨C, 0, none⟩) 0 0) 0 [] ∧ Below w6.heap.size w6 w') (by
        have hx : ∃ C, Value.slice (some ⟨w7.heap.size, 0, none⟩) 0 0 = .slice (some ⟨C, 0, none⟩) 0 0 ∧ (w7.alloc (.cells #[] 5)).ownsRow w6.heap.size 5 1 (.slice (some ⟨C, 0, none⟩) 0 0) 0 [] ∧ Below w6.heap.size w6 (w7.alloc (.cells #[] 5)) := ⟨_, rfl, World.ownsRow_made _ _ 0 HB7.out.size (by decide) rfl, HB7.out.alloc HB7.out.size _⟩
        simpa [gives, go_sem] using hx) ?_
      rintro u w8 ⟨C, rfl, hC, hb8⟩
      have HCr := Lib.hid (And.intro hC hb8)
      clear hC hb8
      refine ⟨HSt.out w8 HCr.out.2, ?_⟩
      simp only [Act.put, List.setIfInBounds_toArray, List.set_cons_zero, List.set_cons_succ]
      refine wpAnyH_only 2 (by kernel_rfl) rfl (fun o ho => ?_)
      obtain rfl := Option.some.inj ho
      refine wp_of_gives (R := fun v w' => w'.ownsRow w6.heap.size 5 1 v d.length (d.map (Value.int .u8)) ∧ Below w6.heap.size w6 w') (gives_fresh_ints (.tmp 167) (.tmp 168) 32 rfl w6.heap.size 5 .u8 1 Try.underlying32 Try.info5' C rfl HCr.out.1 _ d rfl (HM.out.sl.below HCr.out.2) (by have := HP.out.dl; have := HN.out.2; have := HLt.out; omega) (by have := HP.out.dl; have := HN.out.2; have := HLt.out; unfold maxLen; omega) HCr.out.2.size (fun v5 w5 ho5 hb5 => ⟨ho5, HCr.out.2.trans (hb5.mono HCr.out.2.size)⟩)) ?_
      rintro v5 w5' ⟨ho5, hb5⟩
      have HO5 := Lib.hid (And.intro ho5 hb5)
      clear ho5 hb5
      refine ⟨HSt.out w5' HO5.out.2, ?_⟩
      simp only [Act.put, List.setIfInBounds_toArray, List.set_cons_zero, List.set_cons_succ]
      refine wpAnyH_only 5 (by kernel_rfl) rfl (fun o ho => ?_)
      obtain rfl := Option.some.inj ho
      refine wp_of_gives (R := fun v w' => w'.ownsRow w6.heap.size 5 1 v (d.length + xb.length) ((d ++ xb).map (Value.int .u8)) ∧ Below w6.heap.size w6 w') (gives_app_ints (.tmp 169) (.tmp 171) 32 rfl w6.heap.size 5 .u8 1 Try.underlying32 Try.info5' v5 d.length d rfl HO5.out.1 _ xb rfl (HX.out.s.below (HM.out.b.trans (HO5.out.2.mono HM.out.b.size))) (by have := HP.out.dl; have := HLb.out; have := HN.out.2; have := HLt.out; omega) (by have := HP.out.dl; have := HLb.out; have := HN.out.2; have := HLt.out; unfold maxLen; omega) HO5.out.2.size (fun v7 w7' ho7 hb7 _ => ⟨ho7, HO5.out.2.trans hb7⟩)) ?_
      rintro v7 w9 ⟨ho7, hb7⟩
      have hlen : d.length + xb.length = (d ++ xb).length := by rw [List.length_append]
      obtain ⟨a7, k7, rfl, _⟩ := owned_shape ho7
      have HMd := Lib.hid (show Md20 w1 w9 T B2 s2 (d ++ xb) (.slice a7 (d.length + xb.length) k7) g15 g16 _ _ from by
        have hg := HM.out.grown hb7
        rw [hlen] at ho7 ⊢
        refine ⟨hg.p, hg.b, hg.gB, Sl.of_own ho7 (fun z hz => ?_) (by have := HP.out.dl; have := HLb.out; have := HN.out.2; have := HLt.out; rw [List.length_append]; unfold maxLen; omega), fun _ g hg' e => ?_, hg.z15, hg.z16⟩
        · rcases List.mem_append.1 hz with hz | hz
          · exact HM.out.sl.fit z hz
          · exact HX.out.s.fit z hz
        · have h1 := (ho7.lt g hg').1
          have h2 := HM.out.p.lt e
          omega)
      have s4 := HSt.out w9 hb7
      clear ho7 hb7 hlen
      refine ⟨s4, ?_⟩
      simp only [Act.put, List.setIfInBounds_toArray, List.set_cons_zero, List.set_cons_succ]
      refine wpAnyH_early 6 10 (.slice a7 (d.length + xb.length) k7) (by kernel_rfl) (by kernel_rfl) (by kernel_rfl) (fun c a w h => hQ.out c a _ _ w h) rfl (fun o ho => by obtain rfl := Option.some.inj ho; exact .inl ⟨rfl, fun W hS => rfl⟩) s4 ?_
      simp only [Act.put, List.setIfInBounds_toArray, List.set_cons_zero, List.set_cons_succ]
      refine wpAnyH_done (by kernel_rfl) ?_ _
      have y5 : w9.cell? ⟨g15, 5, none⟩ = some (.bool xl) := blk_cell (j := 5) HMd.out.z15 rfl
      have y6 := (Array.getElem?_eq_some_iff.1 HMd.out.z15).1
      clear s1 s4
      go_wp2_with fail
      exact hK.out (N - (k + 1)) _ _ _ _ _ _ _ _ _ _ _ _ _ _ _ _ _ _ _ _ _ _ _ _ _ _ _ _ _ _ _ _ _ _ _ _ _ _ _ _ _ _ _ _ _ _ _ _ _ _ _ _ _ _ _ _ _ _ _ _ _ _ _ _ _ _ _ _ _ _ _ _ _ _ _ _ _ _ _ _ _ _ _ _ _ _ _ _ _ _ _ _ _ _ _ _ _ _ _ _ _ _ _ _ _ _ _ _ _ _ _ _ _ _ _ _ _ _ _ _ _ _ _ _ _ _ _ _ _ _ _ _ _ _ _ _ _ _ _ _ _ _ _ _ _ _ _ _ _ _ _ _ _ _ _ _ _ _ _ _ (by have := HKQ.out; have := HLt.out; omega) (⟨k + 1, by have := HLt.out; omega, by go_num, h, xl, w, rfl, rfl, rfl, Lib.hid ⟨s2, B2, (d ++ xb), HMd.out.end_ (show J20 (k + 1) s2 cap id (d ++ xb) h xl w from by rw [← HE.out.2.2.2.2]; exact (act_data HP.out.j HLb.out (.inl HJ.out)).1 HId.out.1 (HE.out.2.2.2.1.trans HId.out.2)) (by rw [List.length_append]; have := HP.out.dl; have := HLb.out; omega) HP.out.ww⟩⟩)
    · have ei : (xi != id) = false := by rw [bne_eq_false_iff_eq]; exact hid
      have ee : (E0 != 0) = true := by rw [bne_iff_ne]; exact he
      have HId := Lib.hid he
      clear hid he
      go_wp2_with fail
      exact hK.out (N - (k + 1)) _ _ _ _ _ _ _ _ _ _ _ _ _ _ _ _ _ _ _ _ _ _ _ _ _ _ _ _ _ _ _ _ _ _ _ _ _ _ _ _ _ _ _ _ _ _ _ _ _ _ _ _ _ _ _ _ _ _ _ _ _ _ _ _ _ _ _ _ _ _ _ _ _ _ _ _ _ _ _ _ _ _ _ _ _ _ _ _ _ _ _ _ _ _ _ _ _ _ _ _ _ _ _ _ _ _ _ _ _ _ _ _ _ _ _ _ _ _ _ _ _ _ _ _ _ _ _ _ _ _ _ _ _ _ _ _ _ _ _ _ _ _ _ _ _ _ _ _ _ _ _ _ _ _ _ _ _ _ _ _ (by have := HKQ.out; have := HLt.out; omega) (⟨k + 1, by have := HLt.out; omega, by go_num, h, l, w, rfl, rfl, rfl, Lib.hid ⟨s2, B2, d, HM.out.end_ (show J20 (k + 1) s2 cap id d h l w from by rw [← HE.out.2.2.2.2]; exact (act_data HP.out.j HLb.out (.inl HJ.out)).2 (fun e => HId.out (HE.out.2.2.2.1.symm.trans e.2))) (by have := HP.out.dl; omega) HP.out.ww⟩⟩)
  · have ei : (xi != id) = true := by rw [bne_iff_ne]; exact hid
    have HId := Lib.hid hid
    clear hid
    go_wp2_with fail
    exact hK.out (N - (k + 1)) _ _ _ _ _ _ _ _ _ _ _ _ _ _ _ _ _ _ _ _ _ _ _ _ _ _ _ _ _ _ _ _ _ _ _ _ _ _ _ _ _ _ _ _ _ _ _ _ _ _ _ _ _ _ _ _ _ _ _ _ _ _ _ _ _ _ _ _ _ _ _ _ _ _ _ _ _ _ _ _ _ _ _ _ _ _ _ _ _ _ _ _ _ _ _ _ _ _ _ _ _ _ _ _ _ _ _ _ _ _ _ _ _ _ _ _ _ _ _ _ _ _ _ _ _ _ _ _ _ _ _ _ _ _ _ _ _ _ _ _ _ _ _ _ _ _ _ _ _ _ _ _ _ _ _ _ _ _ _ _ (by have := HKQ.out; have := HLt.out; omega) (⟨k + 1, by have := HLt.out; omega, by go_num, h, l, w, rfl, rfl, rfl, Lib.hid ⟨s2, B2, d, HM.out.end_ (show J20 (k + 1) s2 cap id d h l w from by rw [← HE.out.2.2.2.2]; exact (act_data HP.out.j HLb.out (.inl HJ.out)).2 (fun e => HId.out e.1)) (by have := HP.out.dl; omega) HP.out.ww⟩⟩)
set_option maxRecDepth 1000000 in
set_option maxHeartbeats 8000000 in
theorem wh_k3 (w1 : World) (T : Nat) (cap id : Int) (ys : List A20) (N c : Nat) (ad : Option Addr) (c3 c4 c5 c7 c9 c23 c24 c25 c26 c27 c28 c29 c30 c31 c32 c33 c34 c35 c36 c37 c38 c39 c185 : Value) (n : Nat) (wr : World) (K : Act → World → Prop) (Q : Exit → Act → World → Prop) (k : Nat) (s : Sd) (B : Nat → Prop) (d : List Int) (dv : Value) (h w : Int) (l : Bool)
    (u6 u15 u16 u17 u18 u19 u20 u21 u22 u40 u41 u42 u43 u44 u45 u46 u47 u48 u49 u50 u51 u52 u53 u54 u55 u56 u57 u58 u59 u60 u61 u62 u63 u64 u65 u66 u67 u68 u69 u70 u71 u72 u73 u74 u75 u76 u77 u78 u79 u80 u81 u82 u83 u84 u85 u86 u87 u88 u89 u90 u91 u92 u93 u94 u95 u96 u97 u98 u99 u100 u101 u102 u103 u104 u105 u106 u107 u108 u109 u110 u111 u112 u113 u114 u115 u116 u117 u118 u119 u120 u121 u122 u123 u124 u125 u126 u127 u128 u129 u130 u131 u132 u133 u134 u135 u136 u137 u138 u139 u140 u141 u142 u143 u144 u145 u146 u147 u148 u149 u150 u151 u152 u153 u154 u155 u156 u157 u158 u159 u160 u161 u162 u163 u164 u165 u166 u167 u168 u169 u170 u171 u172 u173 u174 u175 u176 u177 u178 u179 u180 u181 u182 u183 u184 : Value)
    (hK : Hid (∀ (m : Nat) (u6 u10 u11 u12 u13 u14 u15 u16 u17 u18 u19 u20 u21 u22 u40 u41 u42 u43 u44 u45 u46 u47 u48 u49 u50 u51 u52 u53 u54 u55 u56 u57 u58 u59 u60 u61 u62 u63 u64 u65 u66 u67 u68 u69 u70 u71 u72 u73 u74 u75 u76 u77 u78 u79 u80 u81 u82 u83 u84 u85 u86 u87 u88 u89 u90 u91 u92 u93 u94 u95 u96 u97 u98 u99 u100 u101 u102 u103 u104 u105 u106 u107 u108 u109 u110 u111 u112 u113 u114 u115 u116 u117 u118 u119 u120 u121 u122 u123 u124 u125 u126 u127 u128 u129 u130 u131 u132 u133 u134 u135 u136 u137 u138 u139 u140 u141 u142 u143 u144 u145 u146 u147 u148 u149 u150 u151 u152 u153 u154 u155 u156 u157 u158 u159 u160 u161 u162 u163 u164 u165 u166 u167 u168 u169 u170 u171 u172 u173 u174 u175 u176 u177 u178 u179 u180 u181 u182 u183 u184 : Value) (w2 : World), m < n → wh_R w1 T cap id ys N c ad m u10 u11 u12 u13 u14 w2 → K ⟨#[.int .u16 cap, .slice ad N c, .int .i64 id, c3, c4, c5, u6, c7, .pointer (some ⟨T, 0, none⟩), c9, u10, u11, u12, u13, u14, u15, u16, u17, u18, u19, u20, u21, u22, c23, c24, c25, c26, c27, c28, c29, c30, c31, c32, c33, c34, c35, c36, c37, c38, c39, u40, u41, u42, u43, u44, u45, u46, u47, u48, u49, u50, u51, u52, u53, u54, u55, u56, u57, u58, u59, u60, u61, u62, u63, u64, u65, u66, u67, u68, u69, u70, u71, u72, u73, u74, u75, u76, u77, u78, u79, u80, u81, u82, u83, u84, u85, u86, u87, u88, u89, u90, u91, u92, u93, u94, u95, u96, u97, u98, u99, u100, u101, u102, u103, u104, u105, u106, u107, u108, u109, u110, u111, u112, u113, u114, u115, u116, u117, u118, u119, u120, u121, u122, u123, u124, u125, u126, u127, u128, u129, u130, u131, u132, u133, u134, u135, u136, u137, u138, u139, u140, u141, u142, u143, u144, u145, u146, u147, u148, u149, u150, u151, u152, u153, u154, u155, u156, u157, u158, u159, u160, u161, u162, u163, u164, u165, u166, u167, u168, u169, u170, u171, u172, u173, u174, u175, u176, u177, u178, u179, u180, u181, u182, u183, u184, c185], []⟩ w2))
    (hQ : Hid (∀ c (a : Act) (d : Tmp) (v : Value) (w : World), Q (.panic c) (a.put (some d) v) w → Q (.panic c) a w)) (HN : Hid (ys.length = N ∧ N ≤ 100)) (HS : Hid (SlA20 w1 (.slice ad N c) ys)) (HFX : Hid (∀ x ∈ ys, x.b.1.length ≤ 300)) (hc1 : N ≤ c) (hc2 : c ≤ 2 ^ 63 - 1) (HC : Hid (0 ≤ cap ∧ cap ≤ 65535)) (hkq : k + n = N) (HP : Hid (Wh20 w1 wr T B s cap id k d dv h l w)) (hlt : k < N) (hkind : ∀ x : A20, ys[k]? = some x → x.k % 10 = 3) :
    Code.wp Try.prog wh_body (Exit.then K Q) ⟨#[.int .u16 cap, .slice ad N c, .int .i64 id, c3, c4, c5, u6, c7, .pointer (some ⟨T, 0, none⟩), c9, dv, .int .i64 h, .bool l, .int .i64 w, .int .i64 (k : Int), u15, u16, u17, u18, u19, u20, u21, u22, c23, c24, c25, c26, c27, c28, c29, c30, c31, c32, c33, c34, c35, c36, c37, c38, c39, u40, u41, u42, u43, u44, u45, u46, u47, u48, u49, u50, u51, u52, u53, u54, u55, u56, u57, u58, u59, u60, u61, u62, u63, u64, u65, u66, u67, u68, u69, u70, u71, u72, u73, u74, u75, u76, u77, u78, u79, u80, u81, u82, u83, u84, u85, u86, u87, u88, u89, u90, u91, u92, u93, u94, u95, u96, u97, u98, u99, u100, u101, u102, u103, u104, u105, u106, u107, u108, u109, u110, u111, u112, u113, u114, u115, u116, u117, u118, u119, u120, u121, u122, u123, u124, u125, u126, u127, u128, u129, u130, u131, u132, u133, u134, u135, u136, u137, u138, u139, u140, u141, u142, u143, u144, u145, u146, u147, u148, u149, u150, u151, u152, u153, u154, u155, u156, u157, u158, u159, u160, u161, u162, u163, u164, u165, u166, u167, u168, u169, u170, u171, u172, u173, u174, u175, u176, u177, u178, u179, u180, u181, u182, u183, u184, c185], []⟩ wr := by
  conv => arg 2; whnf
  have HKQ := Lib.hid hkq
  have hk : k ≤ N := by omega
  obtain ⟨hcl, hch⟩ := HC.out
  have hwc : IntKind.i64.wrap cap = cap := wrap_i64_small (by omega) (by omega)
  clear hkq
  obtain ⟨x, hx⟩ : ∃ x, ys[k]? = some x := ⟨ys[k]'(by rw [HN.out.1]; exact hlt), List.getElem?_eq_getElem (by rw [HN.out.1]; exact hlt)⟩
  obtain ⟨ab, off, rfl, _⟩ := HS.out.1.at_ (i := k) (by rw [HN.out.1]; exact hlt)
  have HCl := Lib.hid (act_cells HS.out HN.out.1 hx)
  have hmem := List.mem_of_getElem? hx
  have HKd := Lib.hid (hkind _ hx)
  have HX := Lib.hid (HS.out.2 _ hmem)
  have HLb := Lib.hid (HFX.out _ hmem)
  obtain ⟨xk, xi, xn, xm, ⟨xb, bv⟩, xl⟩ := x
  have hsl := HX.out.s
  dsimp only at hsl HLb
  obtain ⟨xa, xc, rfl, _⟩ := hsl
  have hx0 := HX.out.k0
  have hx1 := HX.out.k1
  dsimp only at hx0 hx1
  have hdl := HP.out.dl
  obtain ⟨da, dc, rfl, hdcap, hdmax, _⟩ := (show _ from HP.out.sl)
  unfold maxLen at hdmax
  have HSm := Lib.hid (HP.out.j.i.small (by have := HN.out.2; omega))
  have hix := fun q => run_index_sl (P := Try.prog) (t := 22) (s := 6) slice20 (fun _ => by kernel_rfl) ab off N c k hlt q
  clear hmem hx hkind
  obtain ⟨c0, c1, c2, c3, c4, c5, c6⟩ := HCl.out wr HP.out.b
  obtain ⟨W2, hW2⟩ : ∃ W2, wr.alloc (.cells #[.int .u8 xk, .int .i64 xi, .int .i64 xn, .int .i64 xm, .slice xa xb.length xc, .bool xl] 39) = W2 := ⟨_, rfl⟩
  obtain ⟨g15, hg15⟩ : ∃ g, wr.heap.size = g := ⟨_, rfl⟩
  have hb2 : Below wr.heap.size wr W2 := by rw [← hW2]; exact (Below.refl _ _).alloc (Nat.le_refl _) _
  have hz2 : W2.heap[g15]? = some (.cells #[.int .u8 xk, .int .i64 xi, .int .i64 xn, .int .i64 xm, .slice xa xb.length xc, .bool xl] 39 (0, 0)) := by rw [← hW2, ← hg15]; exact heap_alloc_new _ _
  have HM2 := Lib.hid (show SdAt W2 T B s ∧ Below w1.heap.size w1 W2 ∧ W2.heap[g15]? = some (.cells #[.int .u8 xk, .int .i64 xi, .int .i64 xn, .int .i64 xm, .slice xa xb.length xc, .bool xl] 39 (0, 0)) ∧ ¬ B g15 ∧ Sl .u8 W2 (.slice da d.length dc) d from
    ⟨HP.out.p.turn (Turn.of_below hb2 (S := fun _ => False)) (fun _ _ e => e), HP.out.b.trans (hb2.mono HP.out.b.size), hz2, fun e => by have := HP.out.p.lt e; omega, HP.out.sl.below hb2⟩)
  have y0 : W2.cell? ⟨g15, 0, none⟩ = some (.int .u8 xk) := blk_cell (j := 0) hz2 rfl
  have y1 : W2.cell? ⟨g15, 1, none⟩ = some (.int .i64 xi) := blk_cell (j := 1) hz2 rfl
  have y2 : W2.cell? ⟨g15, 2, none⟩ = some (.int .i64 xn) := blk_cell (j := 2) hz2 rfl
  have y3 : W2.cell? ⟨g15, 3, none⟩ = some (.int .i64 xm) := blk_cell (j := 3) hz2 rfl
  have y4 : W2.cell? ⟨g15, 4, none⟩ = some (.slice xa xb.length xc) := blk_cell (j := 4) hz2 rfl
  have y5 : W2.cell? ⟨g15, 5, none⟩ = some (.bool xl) := blk_cell (j := 5) hz2 rfl
  have y6 := (Array.getElem?_eq_some_iff.1 hz2).1
  clear hb2 hz2
  go_wp2_with fail
  refine (said20_any T B s ⟨xk, xi, xn, xm, (xb, .slice xa xb.length xc), xl⟩ W2 HM2.out.1 (HX.out.below HM2.out.2.1) HSm.out (by have := HLb.out; dsimp only; omega) (fun h1 g hg e => by have := HX.out.s.lt0 h1 hg; have := HP.out.gB g e; omega)).mono ?_
  rintro e w3 ⟨pv, B2, rfl, hp, hpb, hs2, ht2, hB2⟩
  obtain ⟨s2, hq⟩ : ∃ s2, aQ s ⟨xk, xi, xn, xm, (xb, .slice xa xb.length xc), xl⟩ = s2 := ⟨_, rfl⟩
  obtain ⟨F, hF⟩ : ∃ F, aF s ⟨xk, xi, xn, xm, (xb, .slice xa xb.length xc), xl⟩ = F := ⟨_, rfl⟩
  obtain ⟨N0, hN0⟩ : ∃ x, aN s ⟨xk, xi, xn, xm, (xb, .slice xa xb.length xc), xl⟩ = x := ⟨_, rfl⟩
  obtain ⟨I0, hI0⟩ : ∃ x, aI s ⟨xk, xi, xn, xm, (xb, .slice xa xb.length xc), xl⟩ = x := ⟨_, rfl⟩
  obtain ⟨E0, hE0⟩ : ∃ x, aE s ⟨xk, xi, xn, xm, (xb, .slice xa xb.length xc), xl⟩ = x := ⟨_, rfl⟩
  rw [hF] at hp hpb
  rw [hq] at hs2
  rw [hF, hN0, hI0, hE0]
  have HE := Lib.hid (And.intro hF (And.intro hN0 (And.intro hI0 (And.intro hE0 hq))))
  clear hF hN0 hI0 hE0 hq
  obtain ⟨fk, fl, fs, fp⟩ := F
  dsimp only at hp hpb HE ⊢
  obtain ⟨pa, pc, rfl, _⟩ := (show _ from hp)
  obtain ⟨W4, hW4⟩ : ∃ W4, w3.alloc (.cells #[.int .i64 fk, .int .i64 fl, .int .i64 fs, .slice pa fp.length pc, .int .i64 N0, .bool I0, .int .i64 E0] 36) = W4 := ⟨_, rfl⟩
  obtain ⟨g16, hg16⟩ : ∃ g, w3.heap.size = g := ⟨_, rfl⟩
  have hb4 : Below w3.heap.size w3 W4 := by rw [← hW4]; exact (Below.refl _ _).alloc (Nat.le_refl _) _
  have hz4 : W4.heap[g16]? = some (.cells #[.int .i64 fk, .int .i64 fl, .int .i64 fs, .slice pa fp.length pc, .int .i64 N0, .bool I0, .int .i64 E0] 36 (0, 0)) := by rw [← hW4, ← hg16]; exact heap_alloc_new _ _
  have HM4 := Lib.hid (show Md20 w1 W4 T B2 s2 d (.slice da d.length dc) g15 g16 #[.int .u8 xk, .int .i64 xi, .int .i64 xn, .int .i64 xm, .slice xa xb.length xc, .bool xl] #[.int .i64 fk, .int .i64 fl, .int .i64 fs, .slice pa fp.length pc, .int .i64 N0, .bool I0, .int .i64 E0] from by
    have hb3 := ht2.base HM2.out.2.1 HM2.out.2.1.size HP.out.gB
    refine ⟨hs2.turn (Turn.of_below hb4 (S := fun _ => False)) (fun _ _ e => e), hb3.trans (hb4.mono hb3.size), fun g hg => (hB2 g hg).elim (HP.out.gB g) (Nat.le_trans HM2.out.2.1.size), (HM2.out.2.2.2.2.turn0 ht2 HP.out.nb).below hb4, fun h1 g hg e => ?_, (Turn.of_below hb4 (S := fun _ => False)).obj (ht2.obj HM2.out.2.2.1 HM2.out.2.2.2.1) (fun e => e), hz4⟩
    rcases hB2 g e with e | e
    · exact HP.out.nb h1 g hg e
    · have := HM2.out.2.2.2.2.lt0 h1 hg; omega)
  have HPv := Lib.hid (hp.below hb4)
  have HJ' := Lib.hid (HP.out.j)
  clear hs2 ht2 hB2 hp hpb c0 c1 c2 c3 c4 c5 c6 y0 y1 y2 y3 y4 y5 y6 hb4 hz4 hW2
  have HI2 := Lib.hid (show Inv20 (k + 1) s2 from by rw [← HE.out.2.2.2.2]; exact HP.out.j.i.act HLb.out)
  have HS2 := Lib.hid (HI2.out.small (by have := HN.out.2; omega))
  have HSum := Lib.hid (show (sumB s2.l : Int) ≤ cap from by rw [← HE.out.2.2.2.2]; exact sum_act HP.out.j HLb.out)
  have hsum := HSum.out
  have dq : decide (cap < (sumB s2.l : Int)) = false := decide_eq_false (by omega)
  have dq0 : decide ((sumB s2.l : Int) < 0) = false := decide_eq_false (by omega)
  go_wp2_with fail
  refine (pWaiting20 HM4.out.p HS2.out).mono ?_
  rintro e w5 ⟨rfl, hb5⟩
  have HM5 := Lib.hid (And.intro (HM4.out.grown hb5) (HPv.out.below hb5))
  clear hb5 hW4 hg16 hg15
  go_wp2_with fail
  refine (pWaiting20 HM5.out.1.p HS2.out).mono ?_
  rintro e w6 ⟨rfl, hb6⟩
  have HM := Lib.hid (HM5.out.1.grown hb6)
  have HPy := Lib.hid (HM5.out.2.below hb6)
  clear hb6
  have y0 : w6.cell? ⟨g15, 0, none⟩ = some (.int .u8 xk) := blk_cell (j := 0) HM.out.z15 rfl
  have y1 : w6.cell? ⟨g15, 1, none⟩ = some (.int .i64 xi) := blk_cell (j := 1) HM.out.z15 rfl
  have y2 : w6.cell? ⟨g15, 2, none⟩ = some (.int .i64 xn) := blk_cell (j := 2) HM.out.z15 rfl
  have y3 : w6.cell? ⟨g15, 3, none⟩ = some (.int .i64 xm) := blk_cell (j := 3) HM.out.z15 rfl
  have y4 : w6.cell? ⟨g15, 4, none⟩ = some (.slice xa xb.length xc) := blk_cell (j := 4) HM.out.z15 rfl
  have y5 : w6.cell? ⟨g15, 5, none⟩ = some (.bool xl) := blk_cell (j := 5) HM.out.z15 rfl
  have y6 := (Array.getElem?_eq_some_iff.1 HM.out.z15).1
  have z0 : w6.cell? ⟨g16, 0, none⟩ = some (.int .i64 fk) := blk_cell (j := 0) HM.out.z16 rfl
  have z1 : w6.cell? ⟨g16, 1, none⟩ = some (.int .i64 fl) := blk_cell (j := 1) HM.out.z16 rfl
  have z2 : w6.cell? ⟨g16, 2, none⟩ = some (.int .i64 fs) := blk_cell (j := 2) HM.out.z16 rfl
  have z3 : w6.cell? ⟨g16, 3, none⟩ = some (.slice pa fp.length pc) := blk_cell (j := 3) HM.out.z16 rfl
  have z4 : w6.cell? ⟨g16, 4, none⟩ = some (.int .i64 N0) := blk_cell (j := 4) HM.out.z16 rfl
  have z5 : w6.cell? ⟨g16, 5, none⟩ = some (.bool I0) := blk_cell (j := 5) HM.out.z16 rfl
  have z6 : w6.cell? ⟨g16, 6, none⟩ = some (.int .i64 E0) := blk_cell (j := 6) HM.out.z16 rfl
  have z7 := (Array.getElem?_eq_some_iff.1 HM.out.z16).1
  clear hsum
  have HLt := Lib.hid hlt
  have hj : xk % 10 = 3 := HKd.out
  have e0 : (xk % 10 == 0) = false := by rw [hj]; rfl
  have e1 : (xk % 10 == 1) = false := by rw [hj]; rfl
  have e2 : (xk % 10 == 2) = false := by rw [hj]; rfl
  have e3 : (xk % 10 == 3) = true := by rw [hj]; rfl
  have e4 : (xk % 10 == 4) = false := by rw [hj]; rfl
  have e5 : (xk % 10 == 5) = false := by rw [hj]; rfl
  have e7 : decide (7 ≤ xk % 10) = false := by rw [hj]; rfl
  have HJ := Lib.hid hj
  by_cases hid : xi = id
  · by_cases he : E0 = 0
    · have ei : (xi != id) = false := by rw [bne_eq_false_iff_eq]; exact hid
      have ee : (E0 != 0) = false := by rw [bne_eq_false_iff_eq]; exact he
      have HId := Lib.hid (And.intro hid he)
      clear hid he
      go_wp2_with fail
      refine wp_region_held (S := fun w' => w'.cell? ⟨g15, 4, none⟩ = some (.slice xa xb.length xc)) (by kernel_rfl) ?_
      have HB7 := Lib.hid (show Below w6.heap.size w6 ({ w6 with drawn := w6.drawn + 1 } : World) from (Below.refl _ _).drew)
      generalize ({ w6 with drawn := w6.drawn + 1 } : World) = w7 at HB7 ⊢
      have HSt := Lib.hid (show ∀ W, Below w6.heap.size w6 W → W.cell? ⟨g15, 4, none⟩ = some (.slice xa xb.length xc) from fun W hb => blk_cell (j := 4) (HM.out.grown hb).z15 rfl)
      clear y0 y1 y2 y3 y4 y5 y6 z0 z1 z2 z3 z4 z5 z6 z7
      have s1 := HSt.out w7 HB7.out
      refine wpAnyH_early 1 168 (.slice da d.length dc) (by kernel_rfl) (by kernel_rfl) (by kernel_rfl) (fun c a w h => hQ.out c a _ _ w h) rfl (fun o ho => by obtain rfl := Option.some.inj ho; exact .inl ⟨rfl, fun W hS => rfl⟩) s1 ?_
      simp only [Act.put, List.setIfInBounds_toArray, List.set_cons_zero, List.set_cons_succ]
      refine wpAnyH_early 3 170 (.pointer (some ⟨g15, 4, none⟩)) (by kernel_rfl) (by kernel_rfl) (by kernel_rfl) (fun c a w h => hQ.out c a _ _ w h) rfl (fun o ho => by obtain rfl := Option.some.inj ho; exact .inl ⟨rfl, fun W hS => by simp [execOp, go_sem]⟩) s1 ?_
      simp only [Act.put, List.setIfInBounds_toArray, List.set_cons_zero, List.set_cons_succ]
      refine wpAnyH_early 4 171 (.slice xa xb.length xc) (by kernel_rfl) (by kernel_rfl) (by kernel_rfl) (fun c a w h => hQ.out c a _ _ w h) rfl (fun o ho => by obtain rfl := Option.some.inj ho; exact .inl ⟨rfl, fun W hS => by simp [execOp, go_sem, hS]⟩) s1 ?_
      simp only [Act.put, List.setIfInBounds_toArray, List.set_cons_zero, List.set_cons_succ]
      refine wpAnyH_only 0 (by kernel_rfl) rfl (fun o ho => ?_)
      obtain rfl := Option.some.inj ho
      refine wp_of_gives (R := fun v w' => ∃ C, v = .slice (some ⟨C, 0, none⟩) 0 0 ∧ w'.ownsRow w6.heap.size 5 1 (.slice (some ⟨C, 0, none⟩) 0 0) 0 [] ∧ Below w6.heap.size w6 w') (by
        have hx : ∃ C, Value.slice (some ⟨w7.heap.size, 0, none⟩) 0 0 = .slice (some ⟨C, 0, none⟩) 0 0 ∧ (w7.alloc (.cells #[] 5)).ownsRow w6.heap.size 5 1 (.slice (some ⟨C, 0, none⟩) 0 0) 0 [] ∧ Below w6.heap.size w6 (w7.alloc (.cells #[] 5)) := ⟨_, rfl, World.ownsRow_made _ _ 0 HB7.out.size (by decide) rfl, HB7.out.alloc HB7.out.size _⟩
        simpa [gives, go_sem] using hx) ?_
      rintro u w8 ⟨C, rfl, hC, hb8⟩
      have HCr := Lib.hid (And.intro hC hb8)
      clear hC hb8
      refine ⟨HSt.out w8 HCr.out.2, ?_⟩
      simp only [Act.put, List.setIfInBounds_toArray, List.set_cons_zero, List.set_cons_succ]
      refine wpAnyH_only 2 (by kernel_rfl) rfl (fun o ho => ?_)
      obtain rfl := Option.some.inj ho
      refine wp_of_gives (R := fun v w' => w'.ownsRow w6.heap.size 5 1 v d.length (d.map (Value.int .u8)) ∧ Below w6.heap.size w6 w') (gives_fresh_ints (.tmp 167) (.tmp 168) 32 rfl w6.heap.size 5 .u8 1 Try.underlying32 Try.info5' C rfl HCr.out.1 _ d rfl (HM.out.sl.below HCr.out.2) (by have := HP.out.dl; have := HN.out.2; have := HLt.out; omega) (by have := HP.out.dl; have := HN.out.2; have := HLt.out; unfold maxLen; omega) HCr.out.2.size (fun v5 w5 ho5 hb5 => ⟨ho5, HCr.out.2.trans (hb5.mono HCr.out.2.size)⟩)) ?_
      rintro v5 w5' ⟨ho5, hb5⟩
      have HO5 := Lib.hid (And.intro ho5 hb5)
      clear ho5 hb5
      refine ⟨HSt.out w5' HO5.out.2, ?_⟩
      simp only [Act.put, List.setIfInBounds_toArray, List.set_cons_zero, List.set_cons_succ]
      refine wpAnyH_only 5 (by kernel_rfl) rfl (fun o ho => ?_)
      obtain rfl := Option.some.inj ho
      refine wp_of_gives (R := fun v w' => w'.ownsRow w6.heap.size 5 1 v (d.length + xb.length) ((d ++ xb).map (Value.int .u8)) ∧ Below w6.heap.size w6 w') (gives_app_ints (.tmp 169) (.tmp 171) 32 rfl w6.heap.size 5 .u8 1 Try.underlying32 Try.info5' v5 d.length d rfl HO5.out.1 _ xb rfl (HX.out.s.below (HM.out.b.trans (HO5.out.2.mono HM.out.b.size))) (by have := HP.out.dl; have := HLb.out; have := HN.out.2; have := HLt.out; omega) (by have := HP.out.dl; have := HLb.out; have := HN.out.2; have := HLt.out; unfold maxLen; omega) HO5.out.2.size (fun v7 w7' ho7 hb7 _ => ⟨ho7, HO5.out.2.trans hb7⟩)) ?_
      rintro v7 w9 ⟨ho7, hb7⟩
      have hlen : d.length + xb.length = (d ++ xb).length := by rw [List.length_append]
      obtain ⟨a7, k7, rfl, _⟩ := owned_shape ho7
      have HMd := Lib.hid (show Md20 w1 w9 T B2 s2 (d ++ xb) (.slice a7 (d.length + xb.length) k7) g15 g16 _ _ from by
        have hg := HM.out.grown hb7
        rw [hlen] at ho7 ⊢
        refine ⟨hg.p, hg.b, hg.gB, Sl.of_own ho7 (fun z hz => ?_) (by have := HP.out.dl; have := HLb.out; have := HN.out.2; have := HLt.out; rw [List.length_append]; unfold maxLen; omega), fun _ g hg' e => ?_, hg.z15, hg.z16⟩
        · rcases List.mem_append.1 hz with hz | hz
          · exact HM.out.sl.fit z hz
          · exact HX.out.s.fit z hz
        · have h1 := (ho7.lt g hg').1
          have h2 := HM.out.p.lt e
          omega)
      have s4 := HSt.out w9 hb7
      clear ho7 hb7 hlen
      refine ⟨s4, ?_⟩
      simp only [Act.put, List.setIfInBounds_toArray, List.set_cons_zero, List.set_cons_succ]
      refine wpAnyH_early 6 10 (.slice a7 (d.length + xb.length) k7) (by kernel_rfl) (by kernel_rfl) (by kernel_rfl) (fun c a w h => hQ.out c a _ _ w h) rfl (fun o ho => by obtain rfl := Option.some.inj ho; exact .inl ⟨rfl, fun W hS => rfl⟩) s4 ?_
      simp only [Act.put, List.setIfInBounds_toArray, List.set_cons_zero, List.set_cons_succ]
      refine wpAnyH_done (by kernel_rfl) ?_ _
      have y5 : w9.cell? ⟨g15, 5, none⟩ = some (.bool xl) := blk_cell (j := 5) HMd.out.z15 rfl
      have y6 := (Array.getElem?_eq_some_iff.1 HMd.out.z15).1
      clear s1 s4
      go_wp2_with fail
      exact hK.out (N - (k + 1)) _ _ _ _ _ _ _ _ _ _ _ _ _ _ _ _ _ _ _ _ _ _ _ _ _ _ _ _ _ _ _ _ _ _ _ _ _ _ _ _ _ _ _ _ _ _ _ _ _ _ _ _ _ _ _ _ _ _ _ _ _ _ _ _ _ _ _ _ _ _ _ _ _ _ _ _ _ _ _ _ _ _ _ _ _ _ _ _ _ _ _ _ _ _ _ _ _ _ _ _ _ _ _ _ _ _ _ _ _ _ _ _ _ _ _ _ _ _ _ _ _ _ _ _ _ _ _ _ _ _ _ _ _ _ _ _ _ _ _ _ _ _ _ _ _ _ _ _ _ _ _ _ _ _ _ _ _ _ _ _ (by have := HKQ.out; have := HLt.out; omega) (⟨k + 1, by have := HLt.out; omega, by go_num, h, xl, w, rfl, rfl, rfl, Lib.hid ⟨s2, B2, (d ++ xb), HMd.out.end_ (show J20 (k + 1) s2 cap id (d ++ xb) h xl w from by rw [← HE.out.2.2.2.2]; exact (act_data HP.out.j HLb.out (.inr HJ.out)).1 HId.out.1 (HE.out.2.2.2.1.trans HId.out.2)) (by rw [List.length_append]; have := HP.out.dl; have := HLb.out; omega) HP.out.ww⟩⟩)
    · have ei : (xi != id) = false := by rw [bne_eq_false_iff_eq]; exact hid
      have ee : (E0 != 0) = true := by rw [bne_iff_ne]; exact he
      have HId := Lib.hid he
      clear hid he
      go_wp2_with fail
      exact hK.out (N - (k + 1)) _ _ _ _ _ _ _ _ _ _ _ _ _ _ _ _ _ _ _ _ _ _ _ _ _ _ _ _ _ _ _ _ _ _ _ _ _ _ _ _ _ _ _ _ _ _ _ _ _ _ _ _ _ _ _ _ _ _ _ _ _ _ _ _ _ _ _ _ _ _ _ _ _ _ _ _ _ _ _ _ _ _ _ _ _ _ _ _ _ _ _ _ _ _ _ _ _ _ _ _ _ _ _ _ _ _ _ _ _ _ _ _ _ _ _ _ _ _ _ _ _ _ _ _ _ _ _ _ _ _ _ _ _ _ _ _ _ _ _ _ _ _ _ _ _ _ _ _ _ _ _ _ _ _ _ _ _ _ _ _ (by have := HKQ.out; have := HLt.out; omega) (⟨k + 1, by have := HLt.out; omega, by go_num, h, l, w, rfl, rfl, rfl, Lib.hid ⟨s2, B2, d, HM.out.end_ (show J20 (k + 1) s2 cap id d h l w from by rw [← HE.out.2.2.2.2]; exact (act_data HP.out.j HLb.out (.inr HJ.out)).2 (fun e => HId.out (HE.out.2.2.2.1.symm.trans e.2))) (by have := HP.out.dl; omega) HP.out.ww⟩⟩)
  · have ei : (xi != id) = true := by rw [bne_iff_ne]; exact hid
    have HId := Lib.hid hid
    clear hid
    go_wp2_with fail
    exact hK.out (N - (k + 1)) _ _ _ _ _ _ _ _ _ _ _ _ _ _ _ _ _ _ _ _ _ _ _ _ _ _ _ _ _ _ _ _ _ _ _ _ _ _ _ _ _ _ _ _ _ _ _ _ _ _ _ _ _ _ _ _ _ _ _ _ _ _ _ _ _ _ _ _ _ _ _ _ _ _ _ _ _ _ _ _ _ _ _ _ _ _ _ _ _ _ _ _ _ _ _ _ _ _ _ _ _ _ _ _ _ _ _ _ _ _ _ _ _ _ _ _ _ _ _ _ _ _ _ _ _ _ _ _ _ _ _ _ _ _ _ _ _ _ _ _ _ _ _ _ _ _ _ _ _ _ _ _ _ _ _ _ _ _ _ _ (by have := HKQ.out; have := HLt.out; omega) (⟨k + 1, by have := HLt.out; omega, by go_num, h, l, w, rfl, rfl, rfl, Lib.hid ⟨s2, B2, d, HM.out.end_ (show J20 (k + 1) s2 cap id d h l w from by rw [← HE.out.2.2.2.2]; exact (act_data HP.out.j HLb.out (.inr HJ.out)).2 (fun e => HId.out e.1)) (by have := HP.out.dl; omega) HP.out.ww⟩⟩)
end Go.Proofs.Ytnoegbdmjinfjaa

/-
  Layer 20: SendWhole: rounds of kinds 4, 5, 6 (written by wip/tools/gen20x.py).
-/
namespace Go.Proofs.Ytnoegbdmjinfjaa
set_option maxRecDepth 20000
open Go.RowKit

set_option maxRecDepth 1000000 in
set_option maxHeartbeats 8000000 in
theorem wh_k4 (w1 : World) (T : Nat) (cap id : Int) (ys : List A20) (N c : Nat) (ad : Option Addr) (c3 c4 c5 c7 c9 c23 c24 c25 c26 c27 c28 c29 c30 c31 c32 c33 c34 c35 c36 c37 c38 c39 c185 : Value) (n : Nat) (wr : World) (K : Act → World → Prop) (Q : Exit → Act → World → Prop) (k : Nat) (s : Sd) (B : Nat → Prop) (d : List Int) (dv : Value) (h w : Int) (l : Bool)
    (u6 u15 u16 u17 u18 u19 u20 u21 u22 u40 u41 u42 u43 u44 u45 u46 u47 u48 u49 u50 u51 u52 u53 u54 u55 u56 u57 u58 u59 u60 u61 u62 u63 u64 u65 u66 u67 u68 u69 u70 u71 u72 u73 u74 u75 u76 u77 u78 u79 u80 u81 u82 u83 u84 u85 u86 u87 u88 u89 u90 u91 u92 u93 u94 u95 u96 u97 u98 u99 u100 u101 u102 u103 u104 u105 u106 u107 u108 u109 u110 u111 u112 u113 u114 u115 u116 u117 u118 u119 u120 u121 u122 u123 u124 u125 u126 u127 u128 u129 u130 u131 u132 u133 u134 u135 u136 u137 u138 u139 u140 u141 u142 u143 u144 u145 u146 u147 u148 u149 u150 u151 u152 u153 u154 u155 u156 u157 u158 u159 u160 u161 u162 u163 u164 u165 u166 u167 u168 u169 u170 u171 u172 u173 u174 u175 u176 u177 u178 u179 u180 u181 u182 u183 u184 : Value)
    (hK : Hid (∀ (m : Nat) (u6 u10 u11 u12 u13 u14 u15 u16 u17 u18 u19 u20 u21 u22 u40 u41 u42 u43 u44 u45 u46 u47 u48 u49 u50 u51 u52 u53 u54 u55 u56 u57 u58 u59 u60 u61 u62 u63 u64 u65 u66 u67 u68 u69 u70 u71 u72 u73 u74 u75 u76 u77 u78 u79 u80 u81 u82 u83 u84 u85 u86 u87 u88 u89 u90 u91 u92 u93 u94 u95 u96 u97 u98 u99 u100 u101 u102 u103 u104 u105 u106 u107 u108 u109 u110 u111 u112 u113 u114 u115 u116 u117 u118 u119 u120 u121 u122 u123 u124 u125 u126 u127 u128 u129 u130 u131 u132 u133 u134 u135 u136 u137 u138 u139 u140 u141 u142 u143 u144 u145 u146 u147 u148 u149 u150 u151 u152 u153 u154 u155 u156 u157 u158 u159 u160 u161 u162 u163 u164 u165 u166 u167 u168 u169 u170 u171 u172 u173 u174 u175 u176 u177 u178 u179 u180 u181 u182 u183 u184 : Value) (w2 : World), m < n → wh_R w1 T cap id ys N c ad m u10 u11 u12 u13 u14 w2 → K ⟨#[.int .u16 cap, .slice ad N c, .int .i64 id, c3, c4, c5, u6, c7, .pointer (some ⟨T, 0, none⟩), c9, u10, u11, u12, u13, u14, u15, u16, u17, u18, u19, u20, u21, u22, c23, c24, c25, c26, c27, c28, c29, c30, c31, c32, c33, c34, c35, c36, c37, c38, c39, u40, u41, u42, u43, u44, u45, u46, u47, u48, u49, u50, u51, u52, u53, u54, u55, u56, u57, u58, u59, u60, u61, u62, u63, u64, u65, u66, u67, u68, u69, u70, u71, u72, u73, u74, u75, u76, u77, u78, u79, u80, u81, u82, u83, u84, u85, u86, u87, u88, u89, u90, u91, u92, u93, u94, u95, u96, u97, u98, u99, u100, u101, u102, u103, u104, u105, u106, u107, u108, u109, u110, u111, u112, u113, u114, u115, u116, u117, u118, u119, u120, u121, u122, u123, u124, u125, u126, u127, u128, u129, u130, u131, u132, u133, u134, u135, u136, u137, u138, u139, u140, u141, u142, u143, u144, u145, u146, u147, u148, u149, u150, u151, u152, u153, u154, u155, u156, u157, u158, u159, u160, u161, u162, u163, u164, u165, u166, u167, u168, u169, u170, u171, u172, u173, u174, u175, u176, u177, u178, u179, u180, u181, u182, u183, u184, c185], []⟩ w2))
    (HN : Hid (ys.length = N ∧ N ≤ 100)) (HS : Hid (SlA20 w1 (.slice ad N c) ys)) (HFX : Hid (∀ x ∈ ys, x.b.1.length ≤ 300)) (hc1 : N ≤ c) (hc2 : c ≤ 2 ^ 63 - 1) (HC : Hid (0 ≤ cap ∧ cap ≤ 65535)) (hkq : k + n = N) (HP : Hid (Wh20 w1 wr T B s cap id k d dv h l w)) (hlt : k < N) (hkind : ∀ x : A20, ys[k]? = some x → x.k % 10 = 4) :
    Code.wp Try.prog wh_body (Exit.then K Q) ⟨#[.int .u16 cap, .slice ad N c, .int .i64 id, c3, c4, c5, u6, c7, .pointer (some ⟨T, 0, none⟩), c9, dv, .int .i64 h, .bool l, .int .i64 w, .int .i64 (k : Int), u15, u16, u17, u18, u19, u20, u21, u22, c23, c24, c25, c26, c27, c28, c29, c30, c31, c32, c33, c34, c35, c36, c37, c38, c39, u40, u41, u42, u43, u44, u45, u46, u47, u48, u49, u50, u51, u52, u53, u54, u55, u56, u57, u58, u59, u60, u61, u62, u63, u64, u65, u66, u67, u68, u69, u70, u71, u72, u73, u74, u75, u76, u77, u78, u79, u80, u81, u82, u83, u84, u85, u86, u87, u88, u89, u90, u91, u92, u93, u94, u95, u96, u97, u98, u99, u100, u101, u102, u103, u104, u105, u106, u107, u108, u109, u110, u111, u112, u113, u114, u115, u116, u117, u118, u119, u120, u121, u122, u123, u124, u125, u126, u127, u128, u129, u130, u131, u132, u133, u134, u135, u136, u137, u138, u139, u140, u141, u142, u143, u144, u145, u146, u147, u148, u149, u150, u151, u152, u153, u154, u155, u156, u157, u158, u159, u160, u161, u162, u163, u164, u165, u166, u167, u168, u169, u170, u171, u172, u173, u174, u175, u176, u177, u178, u179, u180, u181, u182, u183, u184, c185], []⟩ wr := by
  conv => arg 2; whnf
  have HKQ := Lib.hid hkq
  have hk : k ≤ N := by omega
  obtain ⟨hcl, hch⟩ := HC.out
  have hwc : IntKind.i64.wrap cap = cap := wrap_i64_small (by omega) (by omega)
  clear hkq
  obtain ⟨x, hx⟩ : ∃ x, ys[k]? = some x := ⟨ys[k]'(by rw [HN.out.1]; exact hlt), List.getElem?_eq_getElem (by rw [HN.out.1]; exact hlt)⟩
  obtain ⟨ab, off, rfl, _⟩ := HS.out.1.at_ (i := k) (by rw [HN.out.1]; exact hlt)
  have HCl := Lib.hid (act_cells HS.out HN.out.1 hx)
  have hmem := List.mem_of_getElem? hx
  have HKd := Lib.hid (hkind _ hx)
  have HX := Lib.hid (HS.out.2 _ hmem)
  have HLb := Lib.hid (HFX.out _ hmem)
  obtain ⟨xk, xi, xn, xm, ⟨xb, bv⟩, xl⟩ := x
  have hsl := HX.out.s
  dsimp only at hsl HLb
  obtain ⟨xa, xc, rfl, _⟩ := hsl
  have hx0 := HX.out.k0
  have hx1 := HX.out.k1
  dsimp only at hx0 hx1
  have hdl := HP.out.dl
  obtain ⟨da, dc, rfl, hdcap, hdmax, _⟩ := (show _ from HP.out.sl)
  unfold maxLen at hdmax
  have HSm := Lib.hid (HP.out.j.i.small (by have := HN.out.2; omega))
  have hix := fun q => run_index_sl (P := Try.prog) (t := 22) (s := 6) slice20 (fun _ => by kernel_rfl) ab off N c k hlt q
  clear hmem hx hkind
  obtain ⟨c0, c1, c2, c3, c4, c5, c6⟩ := HCl.out wr HP.out.b
  obtain ⟨W2, hW2⟩ : ∃ W2, wr.alloc (.cells #[.int .u8 xk, .int .i64 xi, .int .i64 xn, .int .i64 xm, .slice xa xb.length xc, .bool xl] 39) = W2 := ⟨_, rfl⟩
  obtain ⟨g15, hg15⟩ : ∃ g, wr.heap.size = g := ⟨_, rfl⟩
  have hb2 : Below wr.heap.size wr W2 := by rw [← hW2]; exact (Below.refl _ _).alloc (Nat.le_refl _) _
  have hz2 : W2.heap[g15]? = some (.cells #[.int .u8 xk, .int .i64 xi, .int .i64 xn, .int .i64 xm, .slice xa xb.length xc, .bool xl] 39 (0, 0)) := by rw [← hW2, ← hg15]; exact heap_alloc_new _ _
  have HM2 := Lib.hid (show SdAt W2 T B s ∧ Below w1.heap.size w1 W2 ∧ W2.heap[g15]? = some (.cells #[.int .u8 xk, .int .i64 xi, .int .i64 xn, .int .i64 xm, .slice xa xb.length xc, .bool xl] 39 (0, 0)) ∧ ¬ B g15 ∧ Sl .u8 W2 (.slice da d.length dc) d from
    ⟨HP.out.p.turn (Turn.of_below hb2 (S := fun _ => False)) (fun _ _ e => e), HP.out.b.trans (hb2.mono HP.out.b.size), hz2, fun e => by have := HP.out.p.lt e; omega, HP.out.sl.below hb2⟩)
  have y0 : W2.cell? ⟨g15, 0, none⟩ = some (.int .u8 xk) := blk_cell (j := 0) hz2 rfl
  have y1 : W2.cell? ⟨g15, 1, none⟩ = some (.int .i64 xi) := blk_cell (j := 1) hz2 rfl
  have y2 : W2.cell? ⟨g15, 2, none⟩ = some (.int .i64 xn) := blk_cell (j := 2) hz2 rfl
  have y3 : W2.cell? ⟨g15, 3, none⟩ = some (.int .i64 xm) := blk_cell (j := 3) hz2 rfl
  have y4 : W2.cell? ⟨g15, 4, none⟩ = some (.slice xa xb.length xc) := blk_cell (j := 4) hz2 rfl
  have y5 : W2.cell? ⟨g15, 5, none⟩ = some (.bool xl) := blk_cell (j := 5) hz2 rfl
  have y6 := (Array.getElem?_eq_some_iff.1 hz2).1
  clear hb2 hz2
  go_wp2_with fail
  refine (said20_any T B s ⟨xk, xi, xn, xm, (xb, .slice xa xb.length xc), xl⟩ W2 HM2.out.1 (HX.out.below HM2.out.2.1) HSm.out (by have := HLb.out; dsimp only; omega) (fun h1 g hg e => by have := HX.out.s.lt0 h1 hg; have := HP.out.gB g e; omega)).mono ?_
  rintro e w3 ⟨pv, B2, rfl, hp, hpb, hs2, ht2, hB2⟩
  obtain ⟨s2, hq⟩ : ∃ s2, aQ s ⟨xk, xi, xn, xm, (xb, .slice xa xb.length xc), xl⟩ = s2 := ⟨_, rfl⟩
  obtain ⟨F, hF⟩ : ∃ F, aF s ⟨xk, xi, xn, xm, (xb, .slice xa xb.length xc), xl⟩ = F := ⟨_, rfl⟩
  obtain ⟨N0, hN0⟩ : ∃ x, aN s ⟨xk, xi, xn, xm, (xb, .slice xa xb.length xc), xl⟩ = x := ⟨_, rfl⟩
  obtain ⟨I0, hI0⟩ : ∃ x, aI s ⟨xk, xi, xn, xm, (xb, .slice xa xb.length xc), xl⟩ = x := ⟨_, rfl⟩
  obtain ⟨E0, hE0⟩ : ∃ x, aE s ⟨xk, xi, xn, xm, (xb, .slice xa xb.length xc), xl⟩ = x := ⟨_, rfl⟩
  rw [hF] at hp hpb
  rw [hq] at hs2
  rw [hF, hN0, hI0, hE0]
  have HE := Lib.hid (And.intro hF (And.intro hN0 (And.intro hI0 (And.intro hE0 hq))))
  clear hF hN0 hI0 hE0 hq
  obtain ⟨fk, fl, fs, fp⟩ := F
  dsimp only at hp hpb HE ⊢
  obtain ⟨pa, pc, rfl, _⟩ := (show _ from hp)
  obtain ⟨W4, hW4⟩ : ∃ W4, w3.alloc (.cells #[.int .i64 fk, .int .i64 fl, .int .i64 fs, .slice pa fp.length pc, .int .i64 N0, .bool I0, .int .i64 E0] 36) = W4 := ⟨_, rfl⟩
  obtain ⟨g16, hg16⟩ : ∃ g, w3.heap.size = g := ⟨_, rfl⟩
  have hb4 : Below w3.heap.size w3 W4 := by rw [← hW4]; exact (Below.refl _ _).alloc (Nat.le_refl _) _
  have hz4 : W4.heap[g16]? = some (.cells #[.int .i64 fk, .int .i64 fl, .int .i64 fs, .slice pa fp.length pc, .int .i64 N0, .bool I0, .int .i64 E0] 36 (0, 0)) := by rw [← hW4, ← hg16]; exact heap_alloc_new _ _
  have HM4 := Lib.hid (show Md20 w1 W4 T B2 s2 d (.slice da d.length dc) g15 g16 #[.int .u8 xk, .int .i64 xi, .int .i64 xn, .int .i64 xm, .slice xa xb.length xc, .bool xl] #[.int .i64 fk, .int .i64 fl, .int .i64 fs, .slice pa fp.length pc, .int .i64 N0, .bool I0, .int .i64 E0] from by
    have hb3 := ht2.base HM2.out.2.1 HM2.out.2.1.size HP.out.gB
    refine ⟨hs2.turn (Turn.of_below hb4 (S := fun _ => False)) (fun _ _ e => e), hb3.trans (hb4.mono hb3.size), fun g hg => (hB2 g hg).elim (HP.out.gB g) (Nat.le_trans HM2.out.2.1.size), (HM2.out.2.2.2.2.turn0 ht2 HP.out.nb).below hb4, fun h1 g hg e => ?_, (Turn.of_below hb4 (S := fun _ => False)).obj (ht2.obj HM2.out.2.2.1 HM2.out.2.2.2.1) (fun e => e), hz4⟩
    rcases hB2 g e with e | e
    · exact HP.out.nb h1 g hg e
    · have := HM2.out.2.2.2.2.lt0 h1 hg; omega)
  have HPv := Lib.hid (hp.below hb4)
  have HJ' := Lib.hid (HP.out.j)
  clear hs2 ht2 hB2 hp hpb c0 c1 c2 c3 c4 c5 c6 y0 y1 y2 y3 y4 y5 y6 hb4 hz4 hW2
  have HI2 := Lib.hid (show Inv20 (k + 1) s2 from by rw [← HE.out.2.2.2.2]; exact HP.out.j.i.act HLb.out)
  have HS2 := Lib.hid (HI2.out.small (by have := HN.out.2; omega))
  have HSum := Lib.hid (show (sumB s2.l : Int) ≤ cap from by rw [← HE.out.2.2.2.2]; exact sum_act HP.out.j HLb.out)
  have hsum := HSum.out
  have dq : decide (cap < (sumB s2.l : Int)) = false := decide_eq_false (by omega)
  have dq0 : decide ((sumB s2.l : Int) < 0) = false := decide_eq_false (by omega)
  go_wp2_with fail
  refine (pWaiting20 HM4.out.p HS2.out).mono ?_
  rintro e w5 ⟨rfl, hb5⟩
  have HM5 := Lib.hid (And.intro (HM4.out.grown hb5) (HPv.out.below hb5))
  clear hb5 hW4 hg16 hg15
  go_wp2_with fail
  refine (pWaiting20 HM5.out.1.p HS2.out).mono ?_
  rintro e w6 ⟨rfl, hb6⟩
  have HM := Lib.hid (HM5.out.1.grown hb6)
  have HPy := Lib.hid (HM5.out.2.below hb6)
  clear hb6
  have y0 : w6.cell? ⟨g15, 0, none⟩ = some (.int .u8 xk) := blk_cell (j := 0) HM.out.z15 rfl
  have y1 : w6.cell? ⟨g15, 1, none⟩ = some (.int .i64 xi) := blk_cell (j := 1) HM.out.z15 rfl
  have y2 : w6.cell? ⟨g15, 2, none⟩ = some (.int .i64 xn) := blk_cell (j := 2) HM.out.z15 rfl
  have y3 : w6.cell? ⟨g15, 3, none⟩ = some (.int .i64 xm) := blk_cell (j := 3) HM.out.z15 rfl
  have y4 : w6.cell? ⟨g15, 4, none⟩ = some (.slice xa xb.length xc) := blk_cell (j := 4) HM.out.z15 rfl
  have y5 : w6.cell? ⟨g15, 5, none⟩ = some (.bool xl) := blk_cell (j := 5) HM.out.z15 rfl
  have y6 := (Array.getElem?_eq_some_iff.1 HM.out.z15).1
  have z0 : w6.cell? ⟨g16, 0, none⟩ = some (.int .i64 fk) := blk_cell (j := 0) HM.out.z16 rfl
  have z1 : w6.cell? ⟨g16, 1, none⟩ = some (.int .i64 fl) := blk_cell (j := 1) HM.out.z16 rfl
  have z2 : w6.cell? ⟨g16, 2, none⟩ = some (.int .i64 fs) := blk_cell (j := 2) HM.out.z16 rfl
  have z3 : w6.cell? ⟨g16, 3, none⟩ = some (.slice pa fp.length pc) := blk_cell (j := 3) HM.out.z16 rfl
  have z4 : w6.cell? ⟨g16, 4, none⟩ = some (.int .i64 N0) := blk_cell (j := 4) HM.out.z16 rfl
  have z5 : w6.cell? ⟨g16, 5, none⟩ = some (.bool I0) := blk_cell (j := 5) HM.out.z16 rfl
  have z6 : w6.cell? ⟨g16, 6, none⟩ = some (.int .i64 E0) := blk_cell (j := 6) HM.out.z16 rfl
  have z7 := (Array.getElem?_eq_some_iff.1 HM.out.z16).1
  clear hsum
  have HLt := Lib.hid hlt
  have hj : xk % 10 = 4 := HKd.out
  have e0 : (xk % 10 == 0) = false := by rw [hj]; rfl
  have e1 : (xk % 10 == 1) = false := by rw [hj]; rfl
  have e2 : (xk % 10 == 2) = false := by rw [hj]; rfl
  have e3 : (xk % 10 == 3) = false := by rw [hj]; rfl
  have e4 : (xk % 10 == 4) = true := by rw [hj]; rfl
  have e5 : (xk % 10 == 5) = false := by rw [hj]; rfl
  have e7 : decide (7 ≤ xk % 10) = false := by rw [hj]; rfl
  have HJ := Lib.hid hj
  by_cases hid : xi = id
  · by_cases he : E0 = 0
    · have ei : (xi != id) = false := by rw [bne_eq_false_iff_eq]; exact hid
      have ee : (E0 != 0) = false := by rw [bne_eq_false_iff_eq]; exact he
      have HId := Lib.hid (And.intro hid he)
      clear hid he
      go_wp2_with fail
      refine (refGrow_any w xn w6).mono ?_
      rintro e w7 ⟨rfl, e0⟩
      have e1' := e0.symm
      clear e0
      subst e1'
      unfold tupW
      obtain ⟨gw, hgw⟩ : ∃ gw, growW w xn = gw := ⟨_, rfl⟩
      rw [hgw]
      have HGw := Lib.hid hgw
      clear hgw
      go_wp2_with fail
      exact hK.out (N - (k + 1)) _ _ _ _ _ _ _ _ _ _ _ _ _ _ _ _ _ _ _ _ _ _ _ _ _ _ _ _ _ _ _ _ _ _ _ _ _ _ _ _ _ _ _ _ _ _ _ _ _ _ _ _ _ _ _ _ _ _ _ _ _ _ _ _ _ _ _ _ _ _ _ _ _ _ _ _ _ _ _ _ _ _ _ _ _ _ _ _ _ _ _ _ _ _ _ _ _ _ _ _ _ _ _ _ _ _ _ _ _ _ _ _ _ _ _ _ _ _ _ _ _ _ _ _ _ _ _ _ _ _ _ _ _ _ _ _ _ _ _ _ _ _ _ _ _ _ _ _ _ _ _ _ _ _ _ _ _ _ _ _ (by have := HKQ.out; have := HLt.out; omega) (⟨k + 1, by have := HLt.out; omega, by go_num, h, l, gw.1, rfl, rfl, rfl, Lib.hid ⟨s2, B2, d, HM.out.end_ (show J20 (k + 1) s2 cap id d h l gw.1 from by rw [← HE.out.2.2.2.2]; exact (HGw.out ▸ (act_grow HP.out.j HLb.out HJ.out).1 HId.out.1 (HE.out.2.2.2.1.trans HId.out.2))) (by have := HP.out.dl; omega) (by rw [← HGw.out]; exact growW_ok HP.out.ww)⟩⟩)
    · have ei : (xi != id) = false := by rw [bne_eq_false_iff_eq]; exact hid
      have ee : (E0 != 0) = true := by rw [bne_iff_ne]; exact he
      have HId := Lib.hid he
      clear hid he
      go_wp2_with fail
      exact hK.out (N - (k + 1)) _ _ _ _ _ _ _ _ _ _ _ _ _ _ _ _ _ _ _ _ _ _ _ _ _ _ _ _ _ _ _ _ _ _ _ _ _ _ _ _ _ _ _ _ _ _ _ _ _ _ _ _ _ _ _ _ _ _ _ _ _ _ _ _ _ _ _ _ _ _ _ _ _ _ _ _ _ _ _ _ _ _ _ _ _ _ _ _ _ _ _ _ _ _ _ _ _ _ _ _ _ _ _ _ _ _ _ _ _ _ _ _ _ _ _ _ _ _ _ _ _ _ _ _ _ _ _ _ _ _ _ _ _ _ _ _ _ _ _ _ _ _ _ _ _ _ _ _ _ _ _ _ _ _ _ _ _ _ _ _ (by have := HKQ.out; have := HLt.out; omega) (⟨k + 1, by have := HLt.out; omega, by go_num, h, l, w, rfl, rfl, rfl, Lib.hid ⟨s2, B2, d, HM.out.end_ (show J20 (k + 1) s2 cap id d h l w from by rw [← HE.out.2.2.2.2]; exact (act_grow HP.out.j HLb.out HJ.out).2 (fun e => HId.out (HE.out.2.2.2.1.symm.trans e.2))) (by have := HP.out.dl; omega) HP.out.ww⟩⟩)
  · have ei : (xi != id) = true := by rw [bne_iff_ne]; exact hid
    have HId := Lib.hid hid
    clear hid
    go_wp2_with fail
    exact hK.out (N - (k + 1)) _ _ _ _ _ _ _ _ _ _ _ _ _ _ _ _ _ _ _ _ _ _ _ _ _ _ _ _ _ _ _ _ _ _ _ _ _ _ _ _ _ _ _ _ _ _ _ _ _ _ _ _ _ _ _ _ _ _ _ _ _ _ _ _ _ _ _ _ _ _ _ _ _ _ _ _ _ _ _ _ _ _ _ _ _ _ _ _ _ _ _ _ _ _ _ _ _ _ _ _ _ _ _ _ _ _ _ _ _ _ _ _ _ _ _ _ _ _ _ _ _ _ _ _ _ _ _ _ _ _ _ _ _ _ _ _ _ _ _ _ _ _ _ _ _ _ _ _ _ _ _ _ _ _ _ _ _ _ _ _ (by have := HKQ.out; have := HLt.out; omega) (⟨k + 1, by have := HLt.out; omega, by go_num, h, l, w, rfl, rfl, rfl, Lib.hid ⟨s2, B2, d, HM.out.end_ (show J20 (k + 1) s2 cap id d h l w from by rw [← HE.out.2.2.2.2]; exact (act_grow HP.out.j HLb.out HJ.out).2 (fun e => HId.out e.1)) (by have := HP.out.dl; omega) HP.out.ww⟩⟩)
set_option maxRecDepth 1000000 in
set_option maxHeartbeats 8000000 in
theorem wh_k5 (w1 : World) (T : Nat) (cap id : Int) (ys : List A20) (N c : Nat) (ad : Option Addr) (c3 c4 c5 c7 c9 c23 c24 c25 c26 c27 c28 c29 c30 c31 c32 c33 c34 c35 c36 c37 c38 c39 c185 : Value) (n : Nat) (wr : World) (K : Act → World → Prop) (Q : Exit → Act → World → Prop) (k : Nat) (s : Sd) (B : Nat → Prop) (d : List Int) (dv : Value) (h w : Int) (l : Bool)
    (u6 u15 u16 u17 u18 u19 u20 u21 u22 u40 u41 u42 u43 u44 u45 u46 u47 u48 u49 u50 u51 u52 u53 u54 u55 u56 u57 u58 u59 u60 u61 u62 u63 u64 u65 u66 u67 u68 u69 u70 u71 u72 u73 u74 u75 u76 u77 u78 u79 u80 u81 u82 u83 u84 u85 u86 u87 u88 u89 u90 u91 u92 u93 u94 u95 u96 u97 u98 u99 u100 u101 u102 u103 u104 u105 u106 u107 u108 u109 u110 u111 u112 u113 u114 u115 u116 u117 u118 u119 u120 u121 u122 u123 u124 u125 u126 u127 u128 u129 u130 u131 u132 u133 u134 u135 u136 u137 u138 u139 u140 u141 u142 u143 u144 u145 u146 u147 u148 u149 u150 u151 u152 u153 u154 u155 u156 u157 u158 u159 u160 u161 u162 u163 u164 u165 u166 u167 u168 u169 u170 u171 u172 u173 u174 u175 u176 u177 u178 u179 u180 u181 u182 u183 u184 : Value)
    (hK : Hid (∀ (m : Nat) (u6 u10 u11 u12 u13 u14 u15 u16 u17 u18 u19 u20 u21 u22 u40 u41 u42 u43 u44 u45 u46 u47 u48 u49 u50 u51 u52 u53 u54 u55 u56 u57 u58 u59 u60 u61 u62 u63 u64 u65 u66 u67 u68 u69 u70 u71 u72 u73 u74 u75 u76 u77 u78 u79 u80 u81 u82 u83 u84 u85 u86 u87 u88 u89 u90 u91 u92 u93 u94 u95 u96 u97 u98 u99 u100 u101 u102 u103 u104 u105 u106 u107 u108 u109 u110 u111 u112 u113 u114 u115 u116 u117 u118 u119 u120 u121 u122 u123 u124 u125 u126 u127 u128 u129 u130 u131 u132 u133 u134 u135 u136 u137 u138 u139 u140 u141 u142 u143 u144 u145 u146 u147 u148 u149 u150 u151 u152 u153 u154 u155 u156 u157 u158 u159 u160 u161 u162 u163 u164 u165 u166 u167 u168 u169 u170 u171 u172 u173 u174 u175 u176 u177 u178 u179 u180 u181 u182 u183 u184 : Value) (w2 : World), m < n → wh_R w1 T cap id ys N c ad m u10 u11 u12 u13 u14 w2 → K ⟨#[.int .u16 cap, .slice ad N c, .int .i64 id, c3, c4, c5, u6, c7, .pointer (some ⟨T, 0, none⟩), c9, u10, u11, u12, u13, u14, u15, u16, u17, u18, u19, u20, u21, u22, c23, c24, c25, c26, c27, c28, c29, c30, c31, c32, c33, c34, c35, c36, c37, c38, c39, u40, u41, u42, u43, u44, u45, u46, u47, u48, u49, u50, u51, u52, u53, u54, u55, u56, u57, u58, u59, u60, u61, u62, u63, u64, u65, u66, u67, u68, u69, u70, u71, u72, u73, u74, u75, u76, u77, u78, u79, u80, u81, u82, u83, u84, u85, u86, u87, u88, u89, u90, u91, u92, u93, u94, u95, u96, u97, u98, u99, u100, u101, u102, u103, u104, u105, u106, u107, u108, u109, u110, u111, u112, u113, u114, u115, u116, u117, u118, u119, u120, u121, u122, u123, u124, u125, u126, u127, u128, u129, u130, u131, u132, u133, u134, u135, u136, u137, u138, u139, u140, u141, u142, u143, u144, u145, u146, u147, u148, u149, u150, u151, u152, u153, u154, u155, u156, u157, u158, u159, u160, u161, u162, u163, u164, u165, u166, u167, u168, u169, u170, u171, u172, u173, u174, u175, u176, u177, u178, u179, u180, u181, u182, u183, u184, c185], []⟩ w2))
    (HN : Hid (ys.length = N ∧ N ≤ 100)) (HS : Hid (SlA20 w1 (.slice ad N c) ys)) (HFX : Hid (∀ x ∈ ys, x.b.1.length ≤ 300)) (hc1 : N ≤ c) (hc2 : c ≤ 2 ^ 63 - 1) (HC : Hid (0 ≤ cap ∧ cap ≤ 65535)) (hkq : k + n = N) (HP : Hid (Wh20 w1 wr T B s cap id k d dv h l w)) (hlt : k < N) (hkind : ∀ x : A20, ys[k]? = some x → x.k % 10 = 5) :
    Code.wp Try.prog wh_body (Exit.then K Q) ⟨#[.int .u16 cap, .slice ad N c, .int .i64 id, c3, c4, c5, u6, c7, .pointer (some ⟨T, 0, none⟩), c9, dv, .int .i64 h, .bool l, .int .i64 w, .int .i64 (k : Int), u15, u16, u17, u18, u19, u20, u21, u22, c23, c24, c25, c26, c27, c28, c29, c30, c31, c32, c33, c34, c35, c36, c37, c38, c39, u40, u41, u42, u43, u44, u45, u46, u47, u48, u49, u50, u51, u52, u53, u54, u55, u56, u57, u58, u59, u60, u61, u62, u63, u64, u65, u66, u67, u68, u69, u70, u71, u72, u73, u74, u75, u76, u77, u78, u79, u80, u81, u82, u83, u84, u85, u86, u87, u88, u89, u90, u91, u92, u93, u94, u95, u96, u97, u98, u99, u100, u101, u102, u103, u104, u105, u106, u107, u108, u109, u110, u111, u112, u113, u114, u115, u116, u117, u118, u119, u120, u121, u122, u123, u124, u125, u126, u127, u128, u129, u130, u131, u132, u133, u134, u135, u136, u137, u138, u139, u140, u141, u142, u143, u144, u145, u146, u147, u148, u149, u150, u151, u152, u153, u154, u155, u156, u157, u158, u159, u160, u161, u162, u163, u164, u165, u166, u167, u168, u169, u170, u171, u172, u173, u174, u175, u176, u177, u178, u179, u180, u181, u182, u183, u184, c185], []⟩ wr := by
  conv => arg 2; whnf
  have HKQ := Lib.hid hkq
  have hk : k ≤ N := by omega
  obtain ⟨hcl, hch⟩ := HC.out
  have hwc : IntKind.i64.wrap cap = cap := wrap_i64_small (by omega) (by omega)
  clear hkq
  obtain ⟨x, hx⟩ : ∃ x, ys[k]? = some x := ⟨ys[k]'(by rw [HN.out.1]; exact hlt), List.getElem?_eq_getElem (by rw [HN.out.1]; exact hlt)⟩
  obtain ⟨ab, off, rfl, _⟩ := HS.out.1.at_ (i := k) (by rw [HN.out.1]; exact hlt)
  have HCl := Lib.hid (act_cells HS.out HN.out.1 hx)
  have hmem := List.mem_of_getElem? hx
  have HKd := Lib.hid (hkind _ hx)
  have HX := Lib.hid (HS.out.2 _ hmem)
  have HLb := Lib.hid (HFX.out _ hmem)
  obtain ⟨xk, xi, xn, xm, ⟨xb, bv⟩, xl⟩ := x
  have hsl := HX.out.s
  dsimp only at hsl HLb
  obtain ⟨xa, xc, rfl, _⟩ := hsl
  have hx0 := HX.out.k0
  have hx1 := HX.out.k1
  dsimp only at hx0 hx1
  have hdl := HP.out.dl
  obtain ⟨da, dc, rfl, hdcap, hdmax, _⟩ := (show _ from HP.out.sl)
  unfold maxLen at hdmax
  have HSm := Lib.hid (HP.out.j.i.small (by have := HN.out.2; omega))
  have hix := fun q => run_index_sl (P := Try.prog) (t := 22) (s := 6) slice20 (fun _ => by kernel_rfl) ab off N c k hlt q
  clear hmem hx hkind
  obtain ⟨c0, c1, c2, c3, c4, c5, c6⟩ := HCl.out wr HP.out.b
  obtain ⟨W2, hW2⟩ : ∃ W2, wr.alloc (.cells #[.int .u8 xk, .int .i64 xi, .int .i64 xn, .int .i64 xm, .slice xa xb.length xc, .bool xl] 39) = W2 := ⟨_, rfl⟩
  obtain ⟨g15, hg15⟩ : ∃ g, wr.heap.size = g := ⟨_, rfl⟩
  have hb2 : Below wr.heap.size wr W2 := by rw [← hW2]; exact (Below.refl _ _).alloc (Nat.le_refl _) _
  have hz2 : W2.heap[g15]? = some (.cells #[.int .u8 xk, .int .i64 xi, .int .i64 xn, .int .i64 xm, .slice xa xb.length xc, .bool xl] 39 (0, 0)) := by rw [← hW2, ← hg15]; exact heap_alloc_new _ _
  have HM2 := Lib.hid (show SdAt W2 T B s ∧ Below w1.heap.size w1 W2 ∧ W2.heap[g15]? = some (.cells #[.int .u8 xk, .int .i64 xi, .int .i64 xn, .int .i64 xm, .slice xa xb.length xc, .bool xl] 39 (0, 0)) ∧ ¬ B g15 ∧ Sl .u8 W2 (.slice da d.length dc) d from
    ⟨HP.out.p.turn (Turn.of_below hb2 (S := fun _ => False)) (fun _ _ e => e), HP.out.b.trans (hb2.mono HP.out.b.size), hz2, fun e => by have := HP.out.p.lt e; omega, HP.out.sl.below hb2⟩)
  have y0 : W2.cell? ⟨g15, 0, none⟩ = some (.int .u8 xk) := blk_cell (j := 0) hz2 rfl
  have y1 : W2.cell? ⟨g15, 1, none⟩ = some (.int .i64 xi) := blk_cell (j := 1) hz2 rfl
  have y2 : W2.cell? ⟨g15, 2, none⟩ = some (.int .i64 xn) := blk_cell (j := 2) hz2 rfl
  have y3 : W2.cell? ⟨g15, 3, none⟩ = some (.int .i64 xm) := blk_cell (j := 3) hz2 rfl
  have y4 : W2.cell? ⟨g15, 4, none⟩ = some (.slice xa xb.length xc) := blk_cell (j := 4) hz2 rfl
  have y5 : W2.cell? ⟨g15, 5, none⟩ = some (.bool xl) := blk_cell (j := 5) hz2 rfl
  have y6 := (Array.getElem?_eq_some_iff.1 hz2).1
  clear hb2 hz2
  go_wp2_with fail
  refine (said20_any T B s ⟨xk, xi, xn, xm, (xb, .slice xa xb.length xc), xl⟩ W2 HM2.out.1 (HX.out.below HM2.out.2.1) HSm.out (by have := HLb.out; dsimp only; omega) (fun h1 g hg e => by have := HX.out.s.lt0 h1 hg; have := HP.out.gB g e; omega)).mono ?_
  rintro e w3 ⟨pv, B2, rfl, hp, hpb, hs2, ht2, hB2⟩
  obtain ⟨s2, hq⟩ : ∃ s2, aQ s ⟨xk, xi, xn, xm, (xb, .slice xa xb.length xc), xl⟩ = s2 := ⟨_, rfl⟩
  obtain ⟨F, hF⟩ : ∃ F, aF s ⟨xk, xi, xn, xm, (xb, .slice xa xb.length xc), xl⟩ = F := ⟨_, rfl⟩
  obtain ⟨N0, hN0⟩ : ∃ x, aN s ⟨xk, xi, xn, xm, (xb, .slice xa xb.length xc), xl⟩ = x := ⟨_, rfl⟩
  obtain ⟨I0, hI0⟩ : ∃ x, aI s ⟨xk, xi, xn, xm, (xb, .slice xa xb.length xc), xl⟩ = x := ⟨_, rfl⟩
  obtain ⟨E0, hE0⟩ : ∃ x, aE s ⟨xk, xi, xn, xm, (xb, .slice xa xb.length xc), xl⟩ = x := ⟨_, rfl⟩
  rw [hF] at hp hpb
  rw [hq] at hs2
  rw [hF, hN0, hI0, hE0]
  have HE := Lib.hid (And.intro hF (And.intro hN0 (And.intro hI0 (And.intro hE0 hq))))
  clear hF hN0 hI0 hE0 hq
  obtain ⟨fk, fl, fs, fp⟩ := F
  dsimp only at hp hpb HE ⊢
  obtain ⟨pa, pc, rfl, _⟩ := (show _ from hp)
  obtain ⟨W4, hW4⟩ : ∃ W4, w3.alloc (.cells #[.int .i64 fk, .int .i64 fl, .int .i64 fs, .slice pa fp.length pc, .int .i64 N0, .bool I0, .int .i64 E0] 36) = W4 := ⟨_, rfl⟩
  obtain ⟨g16, hg16⟩ : ∃ g, w3.heap.size = g := ⟨_, rfl⟩
  have hb4 : Below w3.heap.size w3 W4 := by rw [← hW4]; exact (Below.refl _ _).alloc (Nat.le_refl _) _
  have hz4 : W4.heap[g16]? = some (.cells #[.int .i64 fk, .int .i64 fl, .int .i64 fs, .slice pa fp.length pc, .int .i64 N0, .bool I0, .int .i64 E0] 36 (0, 0)) := by rw [← hW4, ← hg16]; exact heap_alloc_new _ _
  have HM4 := Lib.hid (show Md20 w1 W4 T B2 s2 d (.slice da d.length dc) g15 g16 #[.int .u8 xk, .int .i64 xi, .int .i64 xn, .int .i64 xm, .slice xa xb.length xc, .bool xl] #[.int .i64 fk, .int .i64 fl, .int .i64 fs, .slice pa fp.length pc, .int .i64 N0, .bool I0, .int .i64 E0] from by
    have hb3 := ht2.base HM2.out.2.1 HM2.out.2.1.size HP.out.gB
    refine ⟨hs2.turn (Turn.of_below hb4 (S := fun _ => False)) (fun _ _ e => e), hb3.trans (hb4.mono hb3.size), fun g hg => (hB2 g hg).elim (HP.out.gB g) (Nat.le_trans HM2.out.2.1.size), (HM2.out.2.2.2.2.turn0 ht2 HP.out.nb).below hb4, fun h1 g hg e => ?_, (Turn.of_below hb4 (S := fun _ => False)).obj (ht2.obj HM2.out.2.2.1 HM2.out.2.2.2.1) (fun e => e), hz4⟩
    rcases hB2 g e with e | e
    · exact HP.out.nb h1 g hg e
    · have := HM2.out.2.2.2.2.lt0 h1 hg; omega)
  have HPv := Lib.hid (hp.below hb4)
  have HJ' := Lib.hid (HP.out.j)
  clear hs2 ht2 hB2 hp hpb c0 c1 c2 c3 c4 c5 c6 y0 y1 y2 y3 y4 y5 y6 hb4 hz4 hW2
  have HI2 := Lib.hid (show Inv20 (k + 1) s2 from by rw [← HE.out.2.2.2.2]; exact HP.out.j.i.act HLb.out)
  have HS2 := Lib.hid (HI2.out.small (by have := HN.out.2; omega))
  have HSum := Lib.hid (show (sumB s2.l : Int) ≤ cap from by rw [← HE.out.2.2.2.2]; exact sum_act HP.out.j HLb.out)
  have hsum := HSum.out
  have dq : decide (cap < (sumB s2.l : Int)) = false := decide_eq_false (by omega)
  have dq0 : decide ((sumB s2.l : Int) < 0) = false := decide_eq_false (by omega)
  go_wp2_with fail
  refine (pWaiting20 HM4.out.p HS2.out).mono ?_
  rintro e w5 ⟨rfl, hb5⟩
  have HM5 := Lib.hid (And.intro (HM4.out.grown hb5) (HPv.out.below hb5))
  clear hb5 hW4 hg16 hg15
  go_wp2_with fail
  refine (pWaiting20 HM5.out.1.p HS2.out).mono ?_
  rintro e w6 ⟨rfl, hb6⟩
  have HM := Lib.hid (HM5.out.1.grown hb6)
  have HPy := Lib.hid (HM5.out.2.below hb6)
  clear hb6
  have y0 : w6.cell? ⟨g15, 0, none⟩ = some (.int .u8 xk) := blk_cell (j := 0) HM.out.z15 rfl
  have y1 : w6.cell? ⟨g15, 1, none⟩ = some (.int .i64 xi) := blk_cell (j := 1) HM.out.z15 rfl
  have y2 : w6.cell? ⟨g15, 2, none⟩ = some (.int .i64 xn) := blk_cell (j := 2) HM.out.z15 rfl
  have y3 : w6.cell? ⟨g15, 3, none⟩ = some (.int .i64 xm) := blk_cell (j := 3) HM.out.z15 rfl
  have y4 : w6.cell? ⟨g15, 4, none⟩ = some (.slice xa xb.length xc) := blk_cell (j := 4) HM.out.z15 rfl
  have y5 : w6.cell? ⟨g15, 5, none⟩ = some (.bool xl) := blk_cell (j := 5) HM.out.z15 rfl
  have y6 := (Array.getElem?_eq_some_iff.1 HM.out.z15).1
  have z0 : w6.cell? ⟨g16, 0, none⟩ = some (.int .i64 fk) := blk_cell (j := 0) HM.out.z16 rfl
  have z1 : w6.cell? ⟨g16, 1, none⟩ = some (.int .i64 fl) := blk_cell (j := 1) HM.out.z16 rfl
  have z2 : w6.cell? ⟨g16, 2, none⟩ = some (.int .i64 fs) := blk_cell (j := 2) HM.out.z16 rfl
  have z3 : w6.cell? ⟨g16, 3, none⟩ = some (.slice pa fp.length pc) := blk_cell (j := 3) HM.out.z16 rfl
  have z4 : w6.cell? ⟨g16, 4, none⟩ = some (.int .i64 N0) := blk_cell (j := 4) HM.out.z16 rfl
  have z5 : w6.cell? ⟨g16, 5, none⟩ = some (.bool I0) := blk_cell (j := 5) HM.out.z16 rfl
  have z6 : w6.cell? ⟨g16, 6, none⟩ = some (.int .i64 E0) := blk_cell (j := 6) HM.out.z16 rfl
  have z7 := (Array.getElem?_eq_some_iff.1 HM.out.z16).1
  clear hsum
  have HLt := Lib.hid hlt
  have hj : xk % 10 = 5 := HKd.out
  have e0 : (xk % 10 == 0) = false := by rw [hj]; rfl
  have e1 : (xk % 10 == 1) = false := by rw [hj]; rfl
  have e2 : (xk % 10 == 2) = false := by rw [hj]; rfl
  have e3 : (xk % 10 == 3) = false := by rw [hj]; rfl
  have e4 : (xk % 10 == 4) = false := by rw [hj]; rfl
  have e5 : (xk % 10 == 5) = true := by rw [hj]; rfl
  have e7 : decide (7 ≤ xk % 10) = false := by rw [hj]; rfl
  have HJ := Lib.hid hj
  have HE0 := Lib.hid (show E0 = 0 from by rw [← HE.out.2.2.2.1]; simp [aE, HJ.out])
  have ee : (E0 != 0) = false := by rw [bne_eq_false_iff_eq]; exact HE0.out
  by_cases hn0 : N0 = 0
  · have en : (N0 == 0) = true := by rw [beq_iff_eq]; exact hn0
    have HN0 := Lib.hid hn0
    clear hn0
    by_cases hid : xi = id
    · have ei : (xi != id) = false := by rw [bne_eq_false_iff_eq]; exact hid
      clear hid
      go_wp2_with fail
      refine (refShift_any w xn w6).mono ?_
      rintro e w7 ⟨rfl, e0⟩
      have e1' := e0.symm
      clear e0
      subst e1'
      unfold tupW
      obtain ⟨gw, hgw⟩ : ∃ gw, shiftW w xn = gw := ⟨_, rfl⟩
      rw [hgw]
      have HGw := Lib.hid hgw
      clear hgw
      go_wp2_with fail
      exact hK.out (N - (k + 1)) _ _ _ _ _ _ _ _ _ _ _ _ _ _ _ _ _ _ _ _ _ _ _ _ _ _ _ _ _ _ _ _ _ _ _ _ _ _ _ _ _ _ _ _ _ _ _ _ _ _ _ _ _ _ _ _ _ _ _ _ _ _ _ _ _ _ _ _ _ _ _ _ _ _ _ _ _ _ _ _ _ _ _ _ _ _ _ _ _ _ _ _ _ _ _ _ _ _ _ _ _ _ _ _ _ _ _ _ _ _ _ _ _ _ _ _ _ _ _ _ _ _ _ _ _ _ _ _ _ _ _ _ _ _ _ _ _ _ _ _ _ _ _ _ _ _ _ _ _ _ _ _ _ _ _ _ _ _ _ _ (by have := HKQ.out; have := HLt.out; omega) (⟨k + 1, by have := HLt.out; omega, by go_num, h, l, gw.1, rfl, rfl, rfl, Lib.hid ⟨s2, B2, d, HM.out.end_ (show J20 (k + 1) s2 cap id d h l gw.1 from by have h1 := act_shift (x := ⟨xk, xi, xn, xm, (xb, .slice xa xb.length xc), xl⟩) HP.out.j HLb.out HJ.out; rw [HE.out.2.2.2.2, HE.out.2.1, if_pos HN0.out] at h1; rw [← HGw.out]; exact h1) (by have := HP.out.dl; omega) (by rw [← HGw.out]; exact shiftW_ok HP.out.ww)⟩⟩)
    · have ei : (xi != id) = true := by rw [bne_iff_ne]; exact hid
      clear hid
      go_wp2_with fail
      refine (refShift_any w xn w6).mono ?_
      rintro e w7 ⟨rfl, e0⟩
      have e1' := e0.symm
      clear e0
      subst e1'
      unfold tupW
      obtain ⟨gw, hgw⟩ : ∃ gw, shiftW w xn = gw := ⟨_, rfl⟩
      rw [hgw]
      have HGw := Lib.hid hgw
      clear hgw
      go_wp2_with fail
      exact hK.out (N - (k + 1)) _ _ _ _ _ _ _ _ _ _ _ _ _ _ _ _ _ _ _ _ _ _ _ _ _ _ _ _ _ _ _ _ _ _ _ _ _ _ _ _ _ _ _ _ _ _ _ _ _ _ _ _ _ _ _ _ _ _ _ _ _ _ _ _ _ _ _ _ _ _ _ _ _ _ _ _ _ _ _ _ _ _ _ _ _ _ _ _ _ _ _ _ _ _ _ _ _ _ _ _ _ _ _ _ _ _ _ _ _ _ _ _ _ _ _ _ _ _ _ _ _ _ _ _ _ _ _ _ _ _ _ _ _ _ _ _ _ _ _ _ _ _ _ _ _ _ _ _ _ _ _ _ _ _ _ _ _ _ _ _ (by have := HKQ.out; have := HLt.out; omega) (⟨k + 1, by have := HLt.out; omega, by go_num, h, l, gw.1, rfl, rfl, rfl, Lib.hid ⟨s2, B2, d, HM.out.end_ (show J20 (k + 1) s2 cap id d h l gw.1 from by have h1 := act_shift (x := ⟨xk, xi, xn, xm, (xb, .slice xa xb.length xc), xl⟩) HP.out.j HLb.out HJ.out; rw [HE.out.2.2.2.2, HE.out.2.1, if_pos HN0.out] at h1; rw [← HGw.out]; exact h1) (by have := HP.out.dl; omega) (by rw [← HGw.out]; exact shiftW_ok HP.out.ww)⟩⟩)
  · have en : (N0 == 0) = false := by rw [beq_eq_false_iff_ne]; exact hn0
    have HN0 := Lib.hid hn0
    clear hn0
    by_cases hid : xi = id
    · have ei : (xi != id) = false := by rw [bne_eq_false_iff_eq]; exact hid
      clear hid
      go_wp2_with fail
      exact hK.out (N - (k + 1)) _ _ _ _ _ _ _ _ _ _ _ _ _ _ _ _ _ _ _ _ _ _ _ _ _ _ _ _ _ _ _ _ _ _ _ _ _ _ _ _ _ _ _ _ _ _ _ _ _ _ _ _ _ _ _ _ _ _ _ _ _ _ _ _ _ _ _ _ _ _ _ _ _ _ _ _ _ _ _ _ _ _ _ _ _ _ _ _ _ _ _ _ _ _ _ _ _ _ _ _ _ _ _ _ _ _ _ _ _ _ _ _ _ _ _ _ _ _ _ _ _ _ _ _ _ _ _ _ _ _ _ _ _ _ _ _ _ _ _ _ _ _ _ _ _ _ _ _ _ _ _ _ _ _ _ _ _ _ _ _ (by have := HKQ.out; have := HLt.out; omega) (⟨k + 1, by have := HLt.out; omega, by go_num, h, l, w, rfl, rfl, rfl, Lib.hid ⟨s2, B2, d, HM.out.end_ (show J20 (k + 1) s2 cap id d h l w from by have h1 := act_shift (x := ⟨xk, xi, xn, xm, (xb, .slice xa xb.length xc), xl⟩) HP.out.j HLb.out HJ.out; rw [HE.out.2.2.2.2, HE.out.2.1, if_neg HN0.out] at h1; exact h1) (by have := HP.out.dl; omega) HP.out.ww⟩⟩)
    · have ei : (xi != id) = true := by rw [bne_iff_ne]; exact hid
      clear hid
      go_wp2_with fail
      exact hK.out (N - (k + 1)) _ _ _ _ _ _ _ _ _ _ _ _ _ _ _ _ _ _ _ _ _ _ _ _ _ _ _ _ _ _ _ _ _ _ _ _ _ _ _ _ _ _ _ _ _ _ _ _ _ _ _ _ _ _ _ _ _ _ _ _ _ _ _ _ _ _ _ _ _ _ _ _ _ _ _ _ _ _ _ _ _ _ _ _ _ _ _ _ _ _ _ _ _ _ _ _ _ _ _ _ _ _ _ _ _ _ _ _ _ _ _ _ _ _ _ _ _ _ _ _ _ _ _ _ _ _ _ _ _ _ _ _ _ _ _ _ _ _ _ _ _ _ _ _ _ _ _ _ _ _ _ _ _ _ _ _ _ _ _ _ (by have := HKQ.out; have := HLt.out; omega) (⟨k + 1, by have := HLt.out; omega, by go_num, h, l, w, rfl, rfl, rfl, Lib.hid ⟨s2, B2, d, HM.out.end_ (show J20 (k + 1) s2 cap id d h l w from by have h1 := act_shift (x := ⟨xk, xi, xn, xm, (xb, .slice xa xb.length xc), xl⟩) HP.out.j HLb.out HJ.out; rw [HE.out.2.2.2.2, HE.out.2.1, if_neg HN0.out] at h1; exact h1) (by have := HP.out.dl; omega) HP.out.ww⟩⟩)
set_option maxRecDepth 1000000 in
set_option maxHeartbeats 8000000 in
theorem wh_k6 (w1 : World) (T : Nat) (cap id : Int) (ys : List A20) (N c : Nat) (ad : Option Addr) (c3 c4 c5 c7 c9 c23 c24 c25 c26 c27 c28 c29 c30 c31 c32 c33 c34 c35 c36 c37 c38 c39 c185 : Value) (n : Nat) (wr : World) (K : Act → World → Prop) (Q : Exit → Act → World → Prop) (k : Nat) (s : Sd) (B : Nat → Prop) (d : List Int) (dv : Value) (h w : Int) (l : Bool)
    (u6 u15 u16 u17 u18 u19 u20 u21 u22 u40 u41 u42 u43 u44 u45 u46 u47 u48 u49 u50 u51 u52 u53 u54 u55 u56 u57 u58 u59 u60 u61 u62 u63 u64 u65 u66 u67 u68 u69 u70 u71 u72 u73 u74 u75 u76 u77 u78 u79 u80 u81 u82 u83 u84 u85 u86 u87 u88 u89 u90 u91 u92 u93 u94 u95 u96 u97 u98 u99 u100 u101 u102 u103 u104 u105 u106 u107 u108 u109 u110 u111 u112 u113 u114 u115 u116 u117 u118 u119 u120 u121 u122 u123 u124 u125 u126 u127 u128 u129 u130 u131 u132 u133 u134 u135 u136 u137 u138 u139 u140 u141 u142 u143 u144 u145 u146 u147 u148 u149 u150 u151 u152 u153 u154 u155 u156 u157 u158 u159 u160 u161 u162 u163 u164 u165 u166 u167 u168 u169 u170 u171 u172 u173 u174 u175 u176 u177 u178 u179 u180 u181 u182 u183 u184 : Value)
    (hK : Hid (∀ (m : Nat) (u6 u10 u11 u12 u13 u14 u15 u16 u17 u18 u19 u20 u21 u22 u40 u41 u42 u43 u44 u45 u46 u47 u48 u49 u50 u51 u52 u53 u54 u55 u56 u57 u58 u59 u60 u61 u62 u63 u64 u65 u66 u67 u68 u69 u70 u71 u72 u73 u74 u75 u76 u77 u78 u79 u80 u81 u82 u83 u84 u85 u86 u87 u88 u89 u90 u91 u92 u93 u94 u95 u96 u97 u98 u99 u100 u101 u102 u103 u104 u105 u106 u107 u108 u109 u110 u111 u112 u113 u114 u115 u116 u117 u118 u119 u120 u121 u122 u123 u124 u125 u126 u127 u128 u129 u130 u131 u132 u133 u134 u135 u136 u137 u138 u139 u140 u141 u142 u143 u144 u145 u146 u147 u148 u149 u150 u151 u152 u153 u154 u155 u156 u157 u158 u159 u160 u161 u162 u163 u164 u165 u166 u167 u168 u169 u170 u171 u172 u173 u174 u175 u176 u177 u178 u179 u180 u181 u182 u183 u184 : Value) (w2 : World), m < n → wh_R w1 T cap id ys N c ad m u10 u11 u12 u13 u14 w2 → K ⟨#[.int .u16 cap, .slice ad N c, .int .i64 id, c3, c4, c5, u6, c7, .pointer (some ⟨T, 0, none⟩), c9, u10, u11, u12, u13, u14, u15, u16, u17, u18, u19, u20, u21, u22, c23, c24, c25, c26, c27, c28, c29, c30, c31, c32, c33, c34, c35, c36, c37, c38, c39, u40, u41, u42, u43, u44, u45, u46, u47, u48, u49, u50, u51, u52, u53, u54, u55, u56, u57, u58, u59, u60, u61, u62, u63, u64, u65, u66, u67, u68, u69, u70, u71, u72, u73, u74, u75, u76, u77, u78, u79, u80, u81, u82, u83, u84, u85, u86, u87, u88, u89, u90, u91, u92, u93, u94, u95, u96, u97, u98, u99, u100, u101, u102, u103, u104, u105, u106, u107, u108, u109, u110, u111, u112, u113, u114, u115, u116, u117, u118, u119, u120, u121, u122, u123, u124, u125, u126, u127, u128, u129, u130, u131, u132, u133, u134, u135, u136, u137, u138, u139, u140, u141, u142, u143, u144, u145, u146, u147, u148, u149, u150, u151, u152, u153, u154, u155, u156, u157, u158, u159, u160, u161, u162, u163, u164, u165, u166, u167, u168, u169, u170, u171, u172, u173, u174, u175, u176, u177, u178, u179, u180, u181, u182, u183, u184, c185], []⟩ w2))
    (HN : Hid (ys.length = N ∧ N ≤ 100)) (HS : Hid (SlA20 w1 (.slice ad N c) ys)) (HFX : Hid (∀ x ∈ ys, x.b.1.length ≤ 300)) (hc1 : N ≤ c) (hc2 : c ≤ 2 ^ 63 - 1) (HC : Hid (0 ≤ cap ∧ cap ≤ 65535)) (hkq : k + n = N) (HP : Hid (Wh20 w1 wr T B s cap id k d dv h l w)) (hlt : k < N) (hkind : ∀ x : A20, ys[k]? = some x → x.k % 10 = 6) :
    Code.wp Try.prog wh_body (Exit.then K Q) ⟨#[.int .u16 cap, .slice ad N c, .int .i64 id, c3, c4, c5, u6, c7, .pointer (some ⟨T, 0, none⟩), c9, dv, .int .i64 h, .bool l, .int .i64 w, .int .i64 (k : Int), u15, u16, u17, u18, u19, u20, u21, u22, c23, c24, c25, c26, c27, c28, c29, c30, c31, c32, c33, c34, c35, c36, c37, c38, c39, u40, u41, u42, u43, u44, u45, u46, u47, u48, u49, u50, u51, u52, u53, u54, u55, u56, u57, u58, u59, u60, u61, u62, u63, u64, u65, u66, u67, u68, u69, u70, u71, u72, u73, u74, u75, u76, u77, u78, u79, u80, u81, u82, u83, u84, u85, u86, u87, u88, u89, u90, u91, u92, u93, u94, u95, u96, u97, u98, u99, u100, u101, u102, u103, u104, u105, u106, u107, u108, u109, u110, u111, u112, u113, u114, u115, u116, u117, u118, u119, u120, u121, u122, u123, u124, u125, u126, u127, u128, u129, u130, u131, u132, u133, u134, u135, u136, u137, u138, u139, u140, u141, u142, u143, u144, u145, u146, u147, u148, u149, u150, u151, u152, u153, u154, u155, u156, u157, u158, u159, u160, u161, u162, u163, u164, u165, u166, u167, u168, u169, u170, u171, u172, u173, u174, u175, u176, u177, u178, u179, u180, u181, u182, u183, u184, c185], []⟩ wr := by
  conv => arg 2; whnf
  have HKQ := Lib.hid hkq
  have hk : k ≤ N := by omega
  obtain ⟨hcl, hch⟩ := HC.out
  have hwc : IntKind.i64.wrap cap = cap := wrap_i64_small (by omega) (by omega)
  clear hkq
  obtain ⟨x, hx⟩ : ∃ x, ys[k]? = some x := ⟨ys[k]'(by rw [HN.out.1]; exact hlt), List.getElem?_eq_getElem (by rw [HN.out.1]; exact hlt)⟩
  obtain ⟨ab, off, rfl, _⟩ := HS.out.1.at_ (i := k) (by rw [HN.out.1]; exact hlt)
  have HCl := Lib.hid (act_cells HS.out HN.out.1 hx)
  have hmem := List.mem_of_getElem? hx
  have HKd := Lib.hid (hkind _ hx)
  have HX := Lib.hid (HS.out.2 _ hmem)
  have HLb := Lib.hid (HFX.out _ hmem)
  obtain ⟨xk, xi, xn, xm, ⟨xb, bv⟩, xl⟩ := x
  have hsl := HX.out.s
  dsimp only at hsl HLb
  obtain ⟨xa, xc, rfl, _⟩ := hsl
  have hx0 := HX.out.k0
  have hx1 := HX.out.k1
  dsimp only at hx0 hx1
  have hdl := HP.out.dl
  obtain ⟨da, dc, rfl, hdcap, hdmax, _⟩ := (show _ from HP.out.sl)
  unfold maxLen at hdmax
  have HSm := Lib.hid (HP.out.j.i.small (by have := HN.out.2; omega))
  have hix := fun q => run_index_sl (P := Try.prog) (t := 22) (s := 6) slice20 (fun _ => by kernel_rfl) ab off N c k hlt q
  clear hmem hx hkind
  obtain ⟨c0, c1, c2, c3, c4, c5, c6⟩ := HCl.out wr HP.out.b
  obtain ⟨W2, hW2⟩ : ∃ W2, wr.alloc (.cells #[.int .u8 xk, .int .i64 xi, .int .i64 xn, .int .i64 xm, .slice xa xb.length xc, .bool xl] 39) = W2 := ⟨_, rfl⟩
  obtain ⟨g15, hg15⟩ : ∃ g, wr.heap.size = g := ⟨_, rfl⟩
  have hb2 : Below wr.heap.size wr W2 := by rw [← hW2]; exact (Below.refl _ _).alloc (Nat.le_refl _) _
  have hz2 : W2.heap[g15]? = some (.cells #[.int .u8 xk, .int .i64 xi, .int .i64 xn, .int .i64 xm, .slice xa xb.length xc, .bool xl] 39 (0, 0)) := by rw [← hW2, ← hg15]; exact heap_alloc_new _ _
  have HM2 := Lib.hid (show SdAt W2 T B s ∧ Below w1.heap.size w1 W2 ∧ W2.heap[g15]? = some (.cells #[.int .u8 xk, .int .i64 xi, .int .i64 xn, .int .i64 xm, .slice xa xb.length xc, .bool xl] 39 (0, 0)) ∧ ¬ B g15 ∧ Sl .u8 W2 (.slice da d.length dc) d from
    ⟨HP.out.p.turn (Turn.of_below hb2 (S := fun _ => False)) (fun _ _ e => e), HP.out.b.trans (hb2.mono HP.out.b.size), hz2, fun e => by have := HP.out.p.lt e; omega, HP.out.sl.below hb2⟩)
  have y0 : W2.cell? ⟨g15, 0, none⟩ = some (.int .u8 xk) := blk_cell (j := 0) hz2 rfl
  have y1 : W2.cell? ⟨g15, 1, none⟩ = some (.int .i64 xi) := blk_cell (j := 1) hz2 rfl
  have y2 : W2.cell? ⟨g15, 2, none⟩ = some (.int .i64 xn) := blk_cell (j := 2) hz2 rfl
  have y3 : W2.cell? ⟨g15, 3, none⟩ = some (.int .i64 xm) := blk_cell (j := 3) hz2 rfl
  have y4 : W2.cell? ⟨g15, 4, none⟩ = some (.slice xa xb.length xc) := blk_cell (j := 4) hz2 rfl
  have y5 : W2.cell? ⟨g15, 5, none⟩ = some (.bool xl) := blk_cell (j := 5) hz2 rfl
  have y6 := (Array.getElem?_eq_some_iff.1 hz2).1
  clear hb2 hz2
  go_wp2_with fail
  refine (said20_any T B s ⟨xk, xi, xn, xm, (xb, .slice xa xb.length xc), xl⟩ W2 HM2.out.1 (HX.out.below HM2.out.2.1) HSm.out (by have := HLb.out; dsimp only; omega) (fun h1 g hg e => by have := HX.out.s.lt0 h1 hg; have := HP.out.gB g e; omega)).mono ?_
  rintro e w3 ⟨pv, B2, rfl, hp, hpb, hs2, ht2, hB2⟩
  obtain ⟨s2, hq⟩ : ∃ s2, aQ s ⟨xk, xi, xn, xm, (xb, .slice xa xb.length xc), xl⟩ = s2 := ⟨_, rfl⟩
  obtain ⟨F, hF⟩ : ∃ F, aF s ⟨xk, xi, xn, xm, (xb, .slice xa xb.length xc), xl⟩ = F := ⟨_, rfl⟩
  obtain ⟨N0, hN0⟩ : ∃ x, aN s ⟨xk, xi, xn, xm, (xb, .slice xa xb.length xc), xl⟩ = x := ⟨_, rfl⟩
  obtain ⟨I0, hI0⟩ : ∃ x, aI s ⟨xk, xi, xn, xm, (xb, .slice xa xb.length xc), xl⟩ = x := ⟨_, rfl⟩
  obtain ⟨E0, hE0⟩ : ∃ x, aE s ⟨xk, xi, xn, xm, (xb, .slice xa xb.length xc), xl⟩ = x := ⟨_, rfl⟩
  rw [hF] at hp hpb
  rw [hq] at hs2
  rw [hF, hN0, hI0, hE0]
  have HE := Lib.hid (And.intro hF (And.intro hN0 (And.intro hI0 (And.intro hE0 hq))))
  clear hF hN0 hI0 hE0 hq
  obtain ⟨fk, fl, fs, fp⟩ := F
  dsimp only at hp hpb HE ⊢
  obtain ⟨pa, pc, rfl, _⟩ := (show _ from hp)
  obtain ⟨W4, hW4⟩ : ∃ W4, w3.alloc (.cells #[.int .i64 fk, .int .i64 fl, .int .i64 fs, .slice pa fp.length pc, .int .i64 N0, .bool I0, .int .i64 E0] 36) = W4 := ⟨_, rfl⟩
  obtain ⟨g16, hg16⟩ : ∃ g, w3.heap.size = g := ⟨_, rfl⟩
  have hb4 : Below w3.heap.size w3 W4 := by rw [← hW4]; exact (Below.refl _ _).alloc (Nat.le_refl _) _
  have hz4 : W4.heap[g16]? = some (.cells #[.int .i64 fk, .int .i64 fl, .int .i64 fs, .slice pa fp.length pc, .int .i64 N0, .bool I0, .int .i64 E0] 36 (0, 0)) := by rw [← hW4, ← hg16]; exact heap_alloc_new _ _
  have HM4 := Lib.hid (show Md20 w1 W4 T B2 s2 d (.slice da d.length dc) g15 g16 #[.int .u8 xk, .int .i64 xi, .int .i64 xn, .int .i64 xm, .slice xa xb.length xc, .bool xl] #[.int .i64 fk, .int .i64 fl, .int .i64 fs, .slice pa fp.length pc, .int .i64 N0, .bool I0, .int .i64 E0] from by
    have hb3 := ht2.base HM2.out.2.1 HM2.out.2.1.size HP.out.gB
    refine ⟨hs2.turn (Turn.of_below hb4 (S := fun _ => False)) (fun _ _ e => e), hb3.trans (hb4.mono hb3.size), fun g hg => (hB2 g hg).elim (HP.out.gB g) (Nat.le_trans HM2.out.2.1.size), (HM2.out.2.2.2.2.turn0 ht2 HP.out.nb).below hb4, fun h1 g hg e => ?_, (Turn.of_below hb4 (S := fun _ => False)).obj (ht2.obj HM2.out.2.2.1 HM2.out.2.2.2.1) (fun e => e), hz4⟩
    rcases hB2 g e with e | e
    · exact HP.out.nb h1 g hg e
    · have := HM2.out.2.2.2.2.lt0 h1 hg; omega)
  have HPv := Lib.hid (hp.below hb4)
  have HJ' := Lib.hid (HP.out.j)
  clear hs2 ht2 hB2 hp hpb c0 c1 c2 c3 c4 c5 c6 y0 y1 y2 y3 y4 y5 y6 hb4 hz4 hW2
  have HI2 := Lib.hid (show Inv20 (k + 1) s2 from by rw [← HE.out.2.2.2.2]; exact HP.out.j.i.act HLb.out)
  have HS2 := Lib.hid (HI2.out.small (by have := HN.out.2; omega))
  have HSum := Lib.hid (show (sumB s2.l : Int) ≤ cap from by rw [← HE.out.2.2.2.2]; exact sum_act HP.out.j HLb.out)
  have hsum := HSum.out
  have dq : decide (cap < (sumB s2.l : Int)) = false := decide_eq_false (by omega)
  have dq0 : decide ((sumB s2.l : Int) < 0) = false := decide_eq_false (by omega)
  go_wp2_with fail
  refine (pWaiting20 HM4.out.p HS2.out).mono ?_
  rintro e w5 ⟨rfl, hb5⟩
  have HM5 := Lib.hid (And.intro (HM4.out.grown hb5) (HPv.out.below hb5))
  clear hb5 hW4 hg16 hg15
  go_wp2_with fail
  refine (pWaiting20 HM5.out.1.p HS2.out).mono ?_
  rintro e w6 ⟨rfl, hb6⟩
  have HM := Lib.hid (HM5.out.1.grown hb6)
  have HPy := Lib.hid (HM5.out.2.below hb6)
  clear hb6
  have y0 : w6.cell? ⟨g15, 0, none⟩ = some (.int .u8 xk) := blk_cell (j := 0) HM.out.z15 rfl
  have y1 : w6.cell? ⟨g15, 1, none⟩ = some (.int .i64 xi) := blk_cell (j := 1) HM.out.z15 rfl
  have y2 : w6.cell? ⟨g15, 2, none⟩ = some (.int .i64 xn) := blk_cell (j := 2) HM.out.z15 rfl
  have y3 : w6.cell? ⟨g15, 3, none⟩ = some (.int .i64 xm) := blk_cell (j := 3) HM.out.z15 rfl
  have y4 : w6.cell? ⟨g15, 4, none⟩ = some (.slice xa xb.length xc) := blk_cell (j := 4) HM.out.z15 rfl
  have y5 : w6.cell? ⟨g15, 5, none⟩ = some (.bool xl) := blk_cell (j := 5) HM.out.z15 rfl
  have y6 := (Array.getElem?_eq_some_iff.1 HM.out.z15).1
  have z0 : w6.cell? ⟨g16, 0, none⟩ = some (.int .i64 fk) := blk_cell (j := 0) HM.out.z16 rfl
  have z1 : w6.cell? ⟨g16, 1, none⟩ = some (.int .i64 fl) := blk_cell (j := 1) HM.out.z16 rfl
  have z2 : w6.cell? ⟨g16, 2, none⟩ = some (.int .i64 fs) := blk_cell (j := 2) HM.out.z16 rfl
  have z3 : w6.cell? ⟨g16, 3, none⟩ = some (.slice pa fp.length pc) := blk_cell (j := 3) HM.out.z16 rfl
  have z4 : w6.cell? ⟨g16, 4, none⟩ = some (.int .i64 N0) := blk_cell (j := 4) HM.out.z16 rfl
  have z5 : w6.cell? ⟨g16, 5, none⟩ = some (.bool I0) := blk_cell (j := 5) HM.out.z16 rfl
  have z6 : w6.cell? ⟨g16, 6, none⟩ = some (.int .i64 E0) := blk_cell (j := 6) HM.out.z16 rfl
  have z7 := (Array.getElem?_eq_some_iff.1 HM.out.z16).1
  clear hsum
  have HLt := Lib.hid hlt
  have hj : xk % 10 = 6 := HKd.out
  have e0 : (xk % 10 == 0) = false := by rw [hj]; rfl
  have e1 : (xk % 10 == 1) = false := by rw [hj]; rfl
  have e2 : (xk % 10 == 2) = false := by rw [hj]; rfl
  have e3 : (xk % 10 == 3) = false := by rw [hj]; rfl
  have e4 : (xk % 10 == 4) = false := by rw [hj]; rfl
  have e5 : (xk % 10 == 5) = false := by rw [hj]; rfl
  have e7 : decide (7 ≤ xk % 10) = false := by rw [hj]; rfl
  have HJ := Lib.hid hj
  by_cases hid : xi = id
  · by_cases he : E0 = 0
    · have ei : (xi != id) = false := by rw [bne_eq_false_iff_eq]; exact hid
      have ee : (E0 != 0) = false := by rw [bne_eq_false_iff_eq]; exact he
      clear hid he
      go_wp2_with fail
      exact hK.out (N - (k + 1)) _ _ _ _ _ _ _ _ _ _ _ _ _ _ _ _ _ _ _ _ _ _ _ _ _ _ _ _ _ _ _ _ _ _ _ _ _ _ _ _ _ _ _ _ _ _ _ _ _ _ _ _ _ _ _ _ _ _ _ _ _ _ _ _ _ _ _ _ _ _ _ _ _ _ _ _ _ _ _ _ _ _ _ _ _ _ _ _ _ _ _ _ _ _ _ _ _ _ _ _ _ _ _ _ _ _ _ _ _ _ _ _ _ _ _ _ _ _ _ _ _ _ _ _ _ _ _ _ _ _ _ _ _ _ _ _ _ _ _ _ _ _ _ _ _ _ _ _ _ _ _ _ _ _ _ _ _ _ _ _ (by have := HKQ.out; have := HLt.out; omega) (⟨k + 1, by have := HLt.out; omega, by go_num, h, l, w, rfl, rfl, rfl, Lib.hid ⟨s2, B2, d, HM.out.end_ (show J20 (k + 1) s2 cap id d h l w from by rw [← HE.out.2.2.2.2]; exact act_drop HP.out.j HJ.out) (by have := HP.out.dl; omega) HP.out.ww⟩⟩)
    · have ei : (xi != id) = false := by rw [bne_eq_false_iff_eq]; exact hid
      have ee : (E0 != 0) = true := by rw [bne_iff_ne]; exact he
      clear hid he
      go_wp2_with fail
      exact hK.out (N - (k + 1)) _ _ _ _ _ _ _ _ _ _ _ _ _ _ _ _ _ _ _ _ _ _ _ _ _ _ _ _ _ _ _ _ _ _ _ _ _ _ _ _ _ _ _ _ _ _ _ _ _ _ _ _ _ _ _ _ _ _ _ _ _ _ _ _ _ _ _ _ _ _ _ _ _ _ _ _ _ _ _ _ _ _ _ _ _ _ _ _ _ _ _ _ _ _ _ _ _ _ _ _ _ _ _ _ _ _ _ _ _ _ _ _ _ _ _ _ _ _ _ _ _ _ _ _ _ _ _ _ _ _ _ _ _ _ _ _ _ _ _ _ _ _ _ _ _ _ _ _ _ _ _ _ _ _ _ _ _ _ _ _ (by have := HKQ.out; have := HLt.out; omega) (⟨k + 1, by have := HLt.out; omega, by go_num, h, l, w, rfl, rfl, rfl, Lib.hid ⟨s2, B2, d, HM.out.end_ (show J20 (k + 1) s2 cap id d h l w from by rw [← HE.out.2.2.2.2]; exact act_drop HP.out.j HJ.out) (by have := HP.out.dl; omega) HP.out.ww⟩⟩)
  · have ei : (xi != id) = true := by rw [bne_iff_ne]; exact hid
    clear hid
    go_wp2_with fail
    exact hK.out (N - (k + 1)) _ _ _ _ _ _ _ _ _ _ _ _ _ _ _ _ _ _ _ _ _ _ _ _ _ _ _ _ _ _ _ _ _ _ _ _ _ _ _ _ _ _ _ _ _ _ _ _ _ _ _ _ _ _ _ _ _ _ _ _ _ _ _ _ _ _ _ _ _ _ _ _ _ _ _ _ _ _ _ _ _ _ _ _ _ _ _ _ _ _ _ _ _ _ _ _ _ _ _ _ _ _ _ _ _ _ _ _ _ _ _ _ _ _ _ _ _ _ _ _ _ _ _ _ _ _ _ _ _ _ _ _ _ _ _ _ _ _ _ _ _ _ _ _ _ _ _ _ _ _ _ _ _ _ _ _ _ _ _ _ (by have := HKQ.out; have := HLt.out; omega) (⟨k + 1, by have := HLt.out; omega, by go_num, h, l, w, rfl, rfl, rfl, Lib.hid ⟨s2, B2, d, HM.out.end_ (show J20 (k + 1) s2 cap id d h l w from by rw [← HE.out.2.2.2.2]; exact act_drop HP.out.j HJ.out) (by have := HP.out.dl; omega) HP.out.ww⟩⟩)
end Go.Proofs.Ytnoegbdmjinfjaa

/-
  Layer 20: SendWhole: rounds of kinds 7 (written by wip/tools/gen20x.py).
-/
namespace Go.Proofs.Ytnoegbdmjinfjaa
set_option maxRecDepth 20000
open Go.RowKit

set_option maxRecDepth 1000000 in
set_option maxHeartbeats 8000000 in
theorem wh_k7 (w1 : World) (T : Nat) (cap id : Int) (ys : List A20) (N c : Nat) (ad : Option Addr) (c3 c4 c5 c7 c9 c23 c24 c25 c26 c27 c28 c29 c30 c31 c32 c33 c34 c35 c36 c37 c38 c39 c185 : Value) (n : Nat) (wr : World) (K : Act → World → Prop) (Q : Exit → Act → World → Prop) (k : Nat) (s : Sd) (B : Nat → Prop) (d : List Int) (dv : Value) (h w : Int) (l : Bool)
    (u6 u15 u16 u17 u18 u19 u20 u21 u22 u40 u41 u42 u43 u44 u45 u46 u47 u48 u49 u50 u51 u52 u53 u54 u55 u56 u57 u58 u59 u60 u61 u62 u63 u64 u65 u66 u67 u68 u69 u70 u71 u72 u73 u74 u75 u76 u77 u78 u79 u80 u81 u82 u83 u84 u85 u86 u87 u88 u89 u90 u91 u92 u93 u94 u95 u96 u97 u98 u99 u100 u101 u102 u103 u104 u105 u106 u107 u108 u109 u110 u111 u112 u113 u114 u115 u116 u117 u118 u119 u120 u121 u122 u123 u124 u125 u126 u127 u128 u129 u130 u131 u132 u133 u134 u135 u136 u137 u138 u139 u140 u141 u142 u143 u144 u145 u146 u147 u148 u149 u150 u151 u152 u153 u154 u155 u156 u157 u158 u159 u160 u161 u162 u163 u164 u165 u166 u167 u168 u169 u170 u171 u172 u173 u174 u175 u176 u177 u178 u179 u180 u181 u182 u183 u184 : Value)
    (hK : Hid (∀ (m : Nat) (u6 u10 u11 u12 u13 u14 u15 u16 u17 u18 u19 u20 u21 u22 u40 u41 u42 u43 u44 u45 u46 u47 u48 u49 u50 u51 u52 u53 u54 u55 u56 u57 u58 u59 u60 u61 u62 u63 u64 u65 u66 u67 u68 u69 u70 u71 u72 u73 u74 u75 u76 u77 u78 u79 u80 u81 u82 u83 u84 u85 u86 u87 u88 u89 u90 u91 u92 u93 u94 u95 u96 u97 u98 u99 u100 u101 u102 u103 u104 u105 u106 u107 u108 u109 u110 u111 u112 u113 u114 u115 u116 u117 u118 u119 u120 u121 u122 u123 u124 u125 u126 u127 u128 u129 u130 u131 u132 u133 u134 u135 u136 u137 u138 u139 u140 u141 u142 u143 u144 u145 u146 u147 u148 u149 u150 u151 u152 u153 u154 u155 u156 u157 u158 u159 u160 u161 u162 u163 u164 u165 u166 u167 u168 u169 u170 u171 u172 u173 u174 u175 u176 u177 u178 u179 u180 u181 u182 u183 u184 : Value) (w2 : World), m < n → wh_R w1 T cap id ys N c ad m u10 u11 u12 u13 u14 w2 → K ⟨#[.int .u16 cap, .slice ad N c, .int .i64 id, c3, c4, c5, u6, c7, .pointer (some ⟨T, 0, none⟩), c9, u10, u11, u12, u13, u14, u15, u16, u17, u18, u19, u20, u21, u22, c23, c24, c25, c26, c27, c28, c29, c30, c31, c32, c33, c34, c35, c36, c37, c38, c39, u40, u41, u42, u43, u44, u45, u46, u47, u48, u49, u50, u51, u52, u53, u54, u55, u56, u57, u58, u59, u60, u61, u62, u63, u64, u65, u66, u67, u68, u69, u70, u71, u72, u73, u74, u75, u76, u77, u78, u79, u80, u81, u82, u83, u84, u85, u86, u87, u88, u89, u90, u91, u92, u93, u94, u95, u96, u97, u98, u99, u100, u101, u102, u103, u104, u105, u106, u107, u108, u109, u110, u111, u112, u113, u114, u115, u116, u117, u118, u119, u120, u121, u122, u123, u124, u125, u126, u127, u128, u129, u130, u131, u132, u133, u134, u135, u136, u137, u138, u139, u140, u141, u142, u143, u144, u145, u146, u147, u148, u149, u150, u151, u152, u153, u154, u155, u156, u157, u158, u159, u160, u161, u162, u163, u164, u165, u166, u167, u168, u169, u170, u171, u172, u173, u174, u175, u176, u177, u178, u179, u180, u181, u182, u183, u184, c185], []⟩ w2))
    (HN : Hid (ys.length = N ∧ N ≤ 100)) (HS : Hid (SlA20 w1 (.slice ad N c) ys)) (HFX : Hid (∀ x ∈ ys, x.b.1.length ≤ 300)) (hc1 : N ≤ c) (hc2 : c ≤ 2 ^ 63 - 1) (HC : Hid (0 ≤ cap ∧ cap ≤ 65535)) (hkq : k + n = N) (HP : Hid (Wh20 w1 wr T B s cap id k d dv h l w)) (hlt : k < N) (hkind : ∀ x : A20, ys[k]? = some x → x.k % 10 = 7) :
    Code.wp Try.prog wh_body (Exit.then K Q) ⟨#[.int .u16 cap, .slice ad N c, .int .i64 id, c3, c4, c5, u6, c7, .pointer (some ⟨T, 0, none⟩), c9, dv, .int .i64 h, .bool l, .int .i64 w, .int .i64 (k : Int), u15, u16, u17, u18, u19, u20, u21, u22, c23, c24, c25, c26, c27, c28, c29, c30, c31, c32, c33, c34, c35, c36, c37, c38, c39, u40, u41, u42, u43, u44, u45, u46, u47, u48, u49, u50, u51, u52, u53, u54, u55, u56, u57, u58, u59, u60, u61, u62, u63, u64, u65, u66, u67, u68, u69, u70, u71, u72, u73, u74, u75, u76, u77, u78, u79, u80, u81, u82, u83, u84, u85, u86, u87, u88, u89, u90, u91, u92, u93, u94, u95, u96, u97, u98, u99, u100, u101, u102, u103, u104, u105, u106, u107, u108, u109, u110, u111, u112, u113, u114, u115, u116, u117, u118, u119, u120, u121, u122, u123, u124, u125, u126, u127, u128, u129, u130, u131, u132, u133, u134, u135, u136, u137, u138, u139, u140, u141, u142, u143, u144, u145, u146, u147, u148, u149, u150, u151, u152, u153, u154, u155, u156, u157, u158, u159, u160, u161, u162, u163, u164, u165, u166, u167, u168, u169, u170, u171, u172, u173, u174, u175, u176, u177, u178, u179, u180, u181, u182, u183, u184, c185], []⟩ wr := by
  conv => arg 2; whnf
  have HKQ := Lib.hid hkq
  have hk : k ≤ N := by omega
  obtain ⟨hcl, hch⟩ := HC.out
  have hwc : IntKind.i64.wrap cap = cap := wrap_i64_small (by omega) (by omega)
  clear hkq
  obtain ⟨x, hx⟩ : ∃ x, ys[k]? = some x := ⟨ys[k]'(by rw [HN.out.1]; exact hlt), List.getElem?_eq_getElem (by rw [HN.out.1]; exact hlt)⟩
  obtain ⟨ab, off, rfl, _⟩ := HS.out.1.at_ (i := k) (by rw [HN.out.1]; exact hlt)
  have HCl := Lib.hid (act_cells HS.out HN.out.1 hx)
  have hmem := List.mem_of_getElem? hx
  have HKd := Lib.hid (hkind _ hx)
  have HX := Lib.hid (HS.out.2 _ hmem)
  have HLb := Lib.hid (HFX.out _ hmem)
  obtain ⟨xk, xi, xn, xm, ⟨xb, bv⟩, xl⟩ := x
  have hsl := HX.out.s
  dsimp only at hsl HLb
  obtain ⟨xa, xc, rfl, _⟩ := hsl
  have hx0 := HX.out.k0
  have hx1 := HX.out.k1
  dsimp only at hx0 hx1
  have hdl := HP.out.dl
  obtain ⟨da, dc, rfl, hdcap, hdmax, _⟩ := (show _ from HP.out.sl)
  unfold maxLen at hdmax
  have HSm := Lib.hid (HP.out.j.i.small (by have := HN.out.2; omega))
  have hix := fun q => run_index_sl (P := Try.prog) (t := 22) (s := 6) slice20 (fun _ => by kernel_rfl) ab off N c k hlt q
  clear hmem hx hkind
  obtain ⟨c0, c1, c2, c3, c4, c5, c6⟩ := HCl.out wr HP.out.b
  obtain ⟨W2, hW2⟩ : ∃ W2, wr.alloc (.cells #[.int .u8 xk, .int .i64 xi, .int .i64 xn, .int .i64 xm, .slice xa xb.length xc, .bool xl] 39) = W2 := ⟨_, rfl⟩
  obtain ⟨g15, hg15⟩ : ∃ g, wr.heap.size = g := ⟨_, rfl⟩
  have hb2 : Below wr.heap.size wr W2 := by rw [← hW2]; exact (Below.refl _ _).alloc (Nat.le_refl _) _
  have hz2 : W2.heap[g15]? = some (.cells #[.int .u8 xk, .int .i64 xi, .int .i64 xn, .int .i64 xm, .slice xa xb.length xc, .bool xl] 39 (0, 0)) := by rw [← hW2, ← hg15]; exact heap_alloc_new _ _
  have HM2 := Lib.hid (show SdAt W2 T B s ∧ Below w1.heap.size w1 W2 ∧ W2.heap[g15]? = some (.cells #[.int .u8 xk, .int .i64 xi, .int .i64 xn, .int .i64 xm, .slice xa xb.length xc, .bool xl] 39 (0, 0)) ∧ ¬ B g15 ∧ Sl .u8 W2 (.slice da d.length dc) d from
    ⟨HP.out.p.turn (Turn.of_below hb2 (S := fun _ => False)) (fun _ _ e => e), HP.out.b.trans (hb2.mono HP.out.b.size), hz2, fun e => by have := HP.out.p.lt e; omega, HP.out.sl.below hb2⟩)
  have y0 : W2.cell? ⟨g15, 0, none⟩ = some (.int .u8 xk) := blk_cell (j := 0) hz2 rfl
  have y1 : W2.cell? ⟨g15, 1, none⟩ = some (.int .i64 xi) := blk_cell (j := 1) hz2 rfl
  have y2 : W2.cell? ⟨g15, 2, none⟩ = some (.int .i64 xn) := blk_cell (j := 2) hz2 rfl
  have y3 : W2.cell? ⟨g15, 3, none⟩ = some (.int .i64 xm) := blk_cell (j := 3) hz2 rfl
  have y4 : W2.cell? ⟨g15, 4, none⟩ = some (.slice xa xb.length xc) := blk_cell (j := 4) hz2 rfl
  have y5 : W2.cell? ⟨g15, 5, none⟩ = some (.bool xl) := blk_cell (j := 5) hz2 rfl
  have y6 := (Array.getElem?_eq_some_iff.1 hz2).1
  clear hb2 hz2
  go_wp2_with fail
  refine (said20_any T B s ⟨xk, xi, xn, xm, (xb, .slice xa xb.length xc), xl⟩ W2 HM2.out.1 (HX.out.below HM2.out.2.1) HSm.out (by have := HLb.out; dsimp only; omega) (fun h1 g hg e => by have := HX.out.s.lt0 h1 hg; have := HP.out.gB g e; omega)).mono ?_
  rintro e w3 ⟨pv, B2, rfl, hp, hpb, hs2, ht2, hB2⟩
  obtain ⟨s2, hq⟩ : ∃ s2, aQ s ⟨xk, xi, xn, xm, (xb, .slice xa xb.length xc), xl⟩ = s2 := ⟨_, rfl⟩
  obtain ⟨F, hF⟩ : ∃ F, aF s ⟨xk, xi, xn, xm, (xb, .slice xa xb.length xc), xl⟩ = F := ⟨_, rfl⟩
  obtain ⟨N0, hN0⟩ : ∃ x, aN s ⟨xk, xi, xn, xm, (xb, .slice xa xb.length xc), xl⟩ = x := ⟨_, rfl⟩
  obtain ⟨I0, hI0⟩ : ∃ x, aI s ⟨xk, xi, xn, xm, (xb, .slice xa xb.length xc), xl⟩ = x := ⟨_, rfl⟩
  obtain ⟨E0, hE0⟩ : ∃ x, aE s ⟨xk, xi, xn, xm, (xb, .slice xa xb.length xc), xl⟩ = x := ⟨_, rfl⟩
  rw [hF] at hp hpb
  rw [hq] at hs2
  rw [hF, hN0, hI0, hE0]
  have HE := Lib.hid (And.intro hF (And.intro hN0 (And.intro hI0 (And.intro hE0 hq))))
  clear hF hN0 hI0 hE0 hq
  obtain ⟨fk, fl, fs, fp⟩ := F
  dsimp only at hp hpb HE ⊢
  obtain ⟨pa, pc, rfl, _⟩ := (show _ from hp)
  obtain ⟨W4, hW4⟩ : ∃ W4, w3.alloc (.cells #[.int .i64 fk, .int .i64 fl, .int .i64 fs, .slice pa fp.length pc, .int .i64 N0, .bool I0, .int .i64 E0] 36) = W4 := ⟨_, rfl⟩
  obtain ⟨g16, hg16⟩ : ∃ g, w3.heap.size = g := ⟨_, rfl⟩
  have hb4 : Below w3.heap.size w3 W4 := by rw [← hW4]; exact (Below.refl _ _).alloc (Nat.le_refl _) _
  have hz4 : W4.heap[g16]? = some (.cells #[.int .i64 fk, .int .i64 fl, .int .i64 fs, .slice pa fp.length pc, .int .i64 N0, .bool I0, .int .i64 E0] 36 (0, 0)) := by rw [← hW4, ← hg16]; exact heap_alloc_new _ _
  have HM4 := Lib.hid (show Md20 w1 W4 T B2 s2 d (.slice da d.length dc) g15 g16 #[.int .u8 xk, .int .i64 xi, .int .i64 xn, .int .i64 xm, .slice xa xb.length xc, .bool xl] #[.int .i64 fk, .int .i64 fl, .int .i64 fs, .slice pa fp.length pc, .int .i64 N0, .bool I0, .int .i64 E0] from by
    have hb3 := ht2.base HM2.out.2.1 HM2.out.2.1.size HP.out.gB
    refine ⟨hs2.turn (Turn.of_below hb4 (S := fun _ => False)) (fun _ _ e => e), hb3.trans (hb4.mono hb3.size), fun g hg => (hB2 g hg).elim (HP.out.gB g) (Nat.le_trans HM2.out.2.1.size), (HM2.out.2.2.2.2.turn0 ht2 HP.out.nb).below hb4, fun h1 g hg e => ?_, (Turn.of_below hb4 (S := fun _ => False)).obj (ht2.obj HM2.out.2.2.1 HM2.out.2.2.2.1) (fun e => e), hz4⟩
    rcases hB2 g e with e | e
    · exact HP.out.nb h1 g hg e
    · have := HM2.out.2.2.2.2.lt0 h1 hg; omega)
  have HPv := Lib.hid (hp.below hb4)
  have HJ' := Lib.hid (HP.out.j)
  clear hs2 ht2 hB2 hp hpb c0 c1 c2 c3 c4 c5 c6 y0 y1 y2 y3 y4 y5 y6 hb4 hz4 hW2
  have HI2 := Lib.hid (show Inv20 (k + 1) s2 from by rw [← HE.out.2.2.2.2]; exact HP.out.j.i.act HLb.out)
  have HS2 := Lib.hid (HI2.out.small (by have := HN.out.2; omega))
  have HSum := Lib.hid (show (sumB s2.l : Int) ≤ cap from by rw [← HE.out.2.2.2.2]; exact sum_act HP.out.j HLb.out)
  have hsum := HSum.out
  have dq : decide (cap < (sumB s2.l : Int)) = false := decide_eq_false (by omega)
  have dq0 : decide ((sumB s2.l : Int) < 0) = false := decide_eq_false (by omega)
  go_wp2_with fail
  refine (pWaiting20 HM4.out.p HS2.out).mono ?_
  rintro e w5 ⟨rfl, hb5⟩
  have HM5 := Lib.hid (And.intro (HM4.out.grown hb5) (HPv.out.below hb5))
  clear hb5 hW4 hg16 hg15
  go_wp2_with fail
  refine (pWaiting20 HM5.out.1.p HS2.out).mono ?_
  rintro e w6 ⟨rfl, hb6⟩
  have HM := Lib.hid (HM5.out.1.grown hb6)
  have HPy := Lib.hid (HM5.out.2.below hb6)
  clear hb6
  have y0 : w6.cell? ⟨g15, 0, none⟩ = some (.int .u8 xk) := blk_cell (j := 0) HM.out.z15 rfl
  have y1 : w6.cell? ⟨g15, 1, none⟩ = some (.int .i64 xi) := blk_cell (j := 1) HM.out.z15 rfl
  have y2 : w6.cell? ⟨g15, 2, none⟩ = some (.int .i64 xn) := blk_cell (j := 2) HM.out.z15 rfl
  have y3 : w6.cell? ⟨g15, 3, none⟩ = some (.int .i64 xm) := blk_cell (j := 3) HM.out.z15 rfl
  have y4 : w6.cell? ⟨g15, 4, none⟩ = some (.slice xa xb.length xc) := blk_cell (j := 4) HM.out.z15 rfl
  have y5 : w6.cell? ⟨g15, 5, none⟩ = some (.bool xl) := blk_cell (j := 5) HM.out.z15 rfl
  have y6 := (Array.getElem?_eq_some_iff.1 HM.out.z15).1
  have z0 : w6.cell? ⟨g16, 0, none⟩ = some (.int .i64 fk) := blk_cell (j := 0) HM.out.z16 rfl
  have z1 : w6.cell? ⟨g16, 1, none⟩ = some (.int .i64 fl) := blk_cell (j := 1) HM.out.z16 rfl
  have z2 : w6.cell? ⟨g16, 2, none⟩ = some (.int .i64 fs) := blk_cell (j := 2) HM.out.z16 rfl
  have z3 : w6.cell? ⟨g16, 3, none⟩ = some (.slice pa fp.length pc) := blk_cell (j := 3) HM.out.z16 rfl
  have z4 : w6.cell? ⟨g16, 4, none⟩ = some (.int .i64 N0) := blk_cell (j := 4) HM.out.z16 rfl
  have z5 : w6.cell? ⟨g16, 5, none⟩ = some (.bool I0) := blk_cell (j := 5) HM.out.z16 rfl
  have z6 : w6.cell? ⟨g16, 6, none⟩ = some (.int .i64 E0) := blk_cell (j := 6) HM.out.z16 rfl
  have z7 := (Array.getElem?_eq_some_iff.1 HM.out.z16).1
  clear hsum
  have HLt := Lib.hid hlt
  have hj : xk % 10 = 7 := HKd.out
  have e0 : (xk % 10 == 0) = false := by rw [hj]; rfl
  have e1 : (xk % 10 == 1) = false := by rw [hj]; rfl
  have e2 : (xk % 10 == 2) = false := by rw [hj]; rfl
  have e3 : (xk % 10 == 3) = false := by rw [hj]; rfl
  have e4 : (xk % 10 == 4) = false := by rw [hj]; rfl
  have e5 : (xk % 10 == 5) = false := by rw [hj]; rfl
  have e7 : decide (7 ≤ xk % 10) = true := by rw [hj]; rfl
  have HJ := Lib.hid hj
  have HE0 := Lib.hid (show E0 = 0 from by rw [← HE.out.2.2.2.1]; unfold aE; rw [HJ.out]; rfl)
  have ee : (E0 != 0) = false := by rw [bne_eq_false_iff_eq]; exact HE0.out
  have HA := Lib.hid (act_next HP.out.j HLb.out (x := ⟨xk, xi, xn, xm, (xb, .slice xa xb.length xc), xl⟩) (by have := HJ.out; dsimp only; omega))
  rw [HE.out.1, HE.out.2.2.1, HE.out.2.2.2.2] at HA
  dsimp only at HA
  cases I0
  · by_cases hid : xi = id
    · have ei : (xi != id) = false := by rw [bne_eq_false_iff_eq]; exact hid
      clear hid
      go_wp2_with fail
      exact hK.out (N - (k + 1)) _ _ _ _ _ _ _ _ _ _ _ _ _ _ _ _ _ _ _ _ _ _ _ _ _ _ _ _ _ _ _ _ _ _ _ _ _ _ _ _ _ _ _ _ _ _ _ _ _ _ _ _ _ _ _ _ _ _ _ _ _ _ _ _ _ _ _ _ _ _ _ _ _ _ _ _ _ _ _ _ _ _ _ _ _ _ _ _ _ _ _ _ _ _ _ _ _ _ _ _ _ _ _ _ _ _ _ _ _ _ _ _ _ _ _ _ _ _ _ _ _ _ _ _ _ _ _ _ _ _ _ _ _ _ _ _ _ _ _ _ _ _ _ _ _ _ _ _ _ _ _ _ _ _ _ _ _ _ _ _ (by have := HKQ.out; have := HLt.out; omega) (⟨k + 1, by have := HLt.out; omega, by go_num, h, l, w, rfl, rfl, rfl, Lib.hid ⟨s2, B2, d, HM.out.end_ (HA.out.2 (fun e => by cases e.1)) (by have := HP.out.dl; omega) HP.out.ww⟩⟩)
    · have ei : (xi != id) = true := by rw [bne_iff_ne]; exact hid
      clear hid
      go_wp2_with fail
      exact hK.out (N - (k + 1)) _ _ _ _ _ _ _ _ _ _ _ _ _ _ _ _ _ _ _ _ _ _ _ _ _ _ _ _ _ _ _ _ _ _ _ _ _ _ _ _ _ _ _ _ _ _ _ _ _ _ _ _ _ _ _ _ _ _ _ _ _ _ _ _ _ _ _ _ _ _ _ _ _ _ _ _ _ _ _ _ _ _ _ _ _ _ _ _ _ _ _ _ _ _ _ _ _ _ _ _ _ _ _ _ _ _ _ _ _ _ _ _ _ _ _ _ _ _ _ _ _ _ _ _ _ _ _ _ _ _ _ _ _ _ _ _ _ _ _ _ _ _ _ _ _ _ _ _ _ _ _ _ _ _ _ _ _ _ _ _ (by have := HKQ.out; have := HLt.out; omega) (⟨k + 1, by have := HLt.out; omega, by go_num, h, l, w, rfl, rfl, rfl, Lib.hid ⟨s2, B2, d, HM.out.end_ (HA.out.2 (fun e => by cases e.1)) (by have := HP.out.dl; omega) HP.out.ww⟩⟩)
  · by_cases hfs : fs = id
    · have hA := HA.out.1 rfl hfs
      have ef : (fs == id) = true := by rw [beq_iff_eq]; exact hfs
      have HW := Lib.hid hA
      clear hA hfs
      go_wp2_with fail
      refine (went20_yes ⟨fk, fl, fs, fp⟩ (.slice pa fp.length pc) d (.slice da d.length dc) l h w6 HPy.out HM.out.sl HW.out.1).mono ?_
      rintro e w7 ⟨rfl, hb7⟩
      have HM7 := Lib.hid (HM.out.grown hb7)
      clear hb7 y0 y1 y2 y3 y4 y5 y6 z0 z1 z2 z3 z4 z5 z6 z7
      have y2 : w7.cell? ⟨g15, 2, none⟩ = some (.int .i64 xn) := blk_cell (j := 2) HM7.out.z15 rfl
      have y3 : w7.cell? ⟨g15, 3, none⟩ = some (.int .i64 xm) := blk_cell (j := 3) HM7.out.z15 rfl
      have y6 := (Array.getElem?_eq_some_iff.1 HM7.out.z15).1
      have z0 : w7.cell? ⟨g16, 0, none⟩ = some (.int .i64 fk) := blk_cell (j := 0) HM7.out.z16 rfl
      have z3 : w7.cell? ⟨g16, 3, none⟩ = some (.slice pa fp.length pc) := blk_cell (j := 3) HM7.out.z16 rfl
      have z7 := (Array.getElem?_eq_some_iff.1 HM7.out.z16).1
      by_cases hfk : fk = 0
      · have ek : (fk == 0) = true := by rw [beq_iff_eq]; exact hfk
        have HJn := Lib.hid (show J20 (k + 1) s2 cap id (d.drop fp.length) 2 l (w - fp.length) from by have h1 := HW.out.2.2; rw [if_pos hfk, if_pos hfk] at h1; exact h1)
        have HLe := Lib.hid (show fp.length ≤ d.length from by
          rcases went_cases HW.out.1 with h1 | h1
          · have := h1.1; dsimp only at this; omega
          · exact h1.2.2.1)
        have hww := winB_rng HP.out.ww
        have HWw := Lib.hid hww
        by_cases hp0 : 0 < fp.length
        · have hlim := HW.out.2.1 hfk hp0
          have ep : decide ((0 : Int) < (fp.length : Int)) = true := decide_eq_true (by omega)
          have ep' : decide (0 < fp.length) = true := decide_eq_true hp0
          have l1 : decide (w < (fp.length : Int)) = false := decide_eq_false (by omega)
          have l2 : decide (xn < (fp.length : Int)) = false := decide_eq_false (by omega)
          have l3 : decide (xm < (fp.length : Int)) = false := decide_eq_false (by omega)
          have hsub : IntKind.i64.wrap (w - (fp.length : Int)) = w - (fp.length : Int) := wrap_mid20 (by omega) (by omega)
          have HWn := Lib.hid (show winB (w - (fp.length : Int)) = true from decide_eq_true (by omega))
          obtain ⟨ar, cr, hrr, hsr, hor⟩ := cut_rest HM7.out.sl fp.length HLe.out
          have HMr := Lib.hid (show Md20 w1 w7 T B2 s2 (d.drop fp.length) (.slice ar (d.length - fp.length) cr) g15 g16 _ _ from ⟨HM7.out.p, HM7.out.b, HM7.out.gB, hsr, fun h1 g hg => HM7.out.nb (fun e => h1 (by rw [e]; simp)) g (hor g hg), HM7.out.z15, HM7.out.z16⟩)
          clear hlim hsr hor hww hfk hp0
          go_wp2_with fail
          exact hK.out (N - (k + 1)) _ _ _ _ _ _ _ _ _ _ _ _ _ _ _ _ _ _ _ _ _ _ _ _ _ _ _ _ _ _ _ _ _ _ _ _ _ _ _ _ _ _ _ _ _ _ _ _ _ _ _ _ _ _ _ _ _ _ _ _ _ _ _ _ _ _ _ _ _ _ _ _ _ _ _ _ _ _ _ _ _ _ _ _ _ _ _ _ _ _ _ _ _ _ _ _ _ _ _ _ _ _ _ _ _ _ _ _ _ _ _ _ _ _ _ _ _ _ _ _ _ _ _ _ _ _ _ _ _ _ _ _ _ _ _ _ _ _ _ _ _ _ _ _ _ _ _ _ _ _ _ _ _ _ _ _ _ _ _ _ (by have := HKQ.out; have := HLt.out; omega) (⟨k + 1, by have := HLt.out; omega, by go_num, 2, l, (w - (fp.length : Int)), rfl, rfl, rfl, Lib.hid ⟨s2, B2, (d.drop fp.length), HMr.out.end_ HJn.out (by rw [List.length_drop]; have := HP.out.dl; omega) HWn.out⟩⟩)
        · have ep : decide ((0 : Int) < (fp.length : Int)) = false := decide_eq_false (by omega)
          have ep' : decide (0 < fp.length) = false := decide_eq_false hp0
          have hsub : IntKind.i64.wrap (w - (fp.length : Int)) = w - (fp.length : Int) := wrap_mid20 (by omega) (by omega)
          have HWn := Lib.hid (show winB (w - (fp.length : Int)) = true from decide_eq_true (by omega))
          obtain ⟨ar, cr, hrr, hsr, hor⟩ := cut_rest HM7.out.sl fp.length HLe.out
          have HMr := Lib.hid (show Md20 w1 w7 T B2 s2 (d.drop fp.length) (.slice ar (d.length - fp.length) cr) g15 g16 _ _ from ⟨HM7.out.p, HM7.out.b, HM7.out.gB, hsr, fun h1 g hg => HM7.out.nb (fun e => h1 (by rw [e]; simp)) g (hor g hg), HM7.out.z15, HM7.out.z16⟩)
          clear hsr hor hww hfk hp0
          go_wp2_with fail
          exact hK.out (N - (k + 1)) _ _ _ _ _ _ _ _ _ _ _ _ _ _ _ _ _ _ _ _ _ _ _ _ _ _ _ _ _ _ _ _ _ _ _ _ _ _ _ _ _ _ _ _ _ _ _ _ _ _ _ _ _ _ _ _ _ _ _ _ _ _ _ _ _ _ _ _ _ _ _ _ _ _ _ _ _ _ _ _ _ _ _ _ _ _ _ _ _ _ _ _ _ _ _ _ _ _ _ _ _ _ _ _ _ _ _ _ _ _ _ _ _ _ _ _ _ _ _ _ _ _ _ _ _ _ _ _ _ _ _ _ _ _ _ _ _ _ _ _ _ _ _ _ _ _ _ _ _ _ _ _ _ _ _ _ _ _ _ _ (by have := HKQ.out; have := HLt.out; omega) (⟨k + 1, by have := HLt.out; omega, by go_num, 2, l, (w - (fp.length : Int)), rfl, rfl, rfl, Lib.hid ⟨s2, B2, (d.drop fp.length), HMr.out.end_ HJn.out (by rw [List.length_drop]; have := HP.out.dl; omega) HWn.out⟩⟩)
      · have ek : (fk == 0) = false := by rw [beq_eq_false_iff_ne]; exact hfk
        have HJn := Lib.hid (show J20 (k + 1) s2 cap id d 2 l w from by have h1 := HW.out.2.2; rw [if_neg hfk, if_neg hfk] at h1; exact h1)
        clear hfk
        go_wp2_with fail
        exact hK.out (N - (k + 1)) _ _ _ _ _ _ _ _ _ _ _ _ _ _ _ _ _ _ _ _ _ _ _ _ _ _ _ _ _ _ _ _ _ _ _ _ _ _ _ _ _ _ _ _ _ _ _ _ _ _ _ _ _ _ _ _ _ _ _ _ _ _ _ _ _ _ _ _ _ _ _ _ _ _ _ _ _ _ _ _ _ _ _ _ _ _ _ _ _ _ _ _ _ _ _ _ _ _ _ _ _ _ _ _ _ _ _ _ _ _ _ _ _ _ _ _ _ _ _ _ _ _ _ _ _ _ _ _ _ _ _ _ _ _ _ _ _ _ _ _ _ _ _ _ _ _ _ _ _ _ _ _ _ _ _ _ _ _ _ _ (by have := HKQ.out; have := HLt.out; omega) (⟨k + 1, by have := HLt.out; omega, by go_num, 2, l, w, rfl, rfl, rfl, Lib.hid ⟨s2, B2, d, HM7.out.end_ HJn.out (by have := HP.out.dl; omega) HP.out.ww⟩⟩)
    · have ef : (fs == id) = false := by rw [beq_eq_false_iff_ne]; exact hfs
      have HFs := Lib.hid hfs
      clear hfs
      by_cases hid : xi = id
      · have ei : (xi != id) = false := by rw [bne_eq_false_iff_eq]; exact hid
        clear hid
        go_wp2_with fail
        exact hK.out (N - (k + 1)) _ _ _ _ _ _ _ _ _ _ _ _ _ _ _ _ _ _ _ _ _ _ _ _ _ _ _ _ _ _ _ _ _ _ _ _ _ _ _ _ _ _ _ _ _ _ _ _ _ _ _ _ _ _ _ _ _ _ _ _ _ _ _ _ _ _ _ _ _ _ _ _ _ _ _ _ _ _ _ _ _ _ _ _ _ _ _ _ _ _ _ _ _ _ _ _ _ _ _ _ _ _ _ _ _ _ _ _ _ _ _ _ _ _ _ _ _ _ _ _ _ _ _ _ _ _ _ _ _ _ _ _ _ _ _ _ _ _ _ _ _ _ _ _ _ _ _ _ _ _ _ _ _ _ _ _ _ _ _ _ (by have := HKQ.out; have := HLt.out; omega) (⟨k + 1, by have := HLt.out; omega, by go_num, h, l, w, rfl, rfl, rfl, Lib.hid ⟨s2, B2, d, HM.out.end_ (HA.out.2 (fun e => HFs.out e.2)) (by have := HP.out.dl; omega) HP.out.ww⟩⟩)
      · have ei : (xi != id) = true := by rw [bne_iff_ne]; exact hid
        clear hid
        go_wp2_with fail
        exact hK.out (N - (k + 1)) _ _ _ _ _ _ _ _ _ _ _ _ _ _ _ _ _ _ _ _ _ _ _ _ _ _ _ _ _ _ _ _ _ _ _ _ _ _ _ _ _ _ _ _ _ _ _ _ _ _ _ _ _ _ _ _ _ _ _ _ _ _ _ _ _ _ _ _ _ _ _ _ _ _ _ _ _ _ _ _ _ _ _ _ _ _ _ _ _ _ _ _ _ _ _ _ _ _ _ _ _ _ _ _ _ _ _ _ _ _ _ _ _ _ _ _ _ _ _ _ _ _ _ _ _ _ _ _ _ _ _ _ _ _ _ _ _ _ _ _ _ _ _ _ _ _ _ _ _ _ _ _ _ _ _ _ _ _ _ _ (by have := HKQ.out; have := HLt.out; omega) (⟨k + 1, by have := HLt.out; omega, by go_num, h, l, w, rfl, rfl, rfl, Lib.hid ⟨s2, B2, d, HM.out.end_ (HA.out.2 (fun e => HFs.out e.2)) (by have := HP.out.dl; omega) HP.out.ww⟩⟩)
end Go.Proofs.Ytnoegbdmjinfjaa

/-
  Layer 20: SendWhole: rounds of kinds 8, 9 (written by wip/tools/gen20x.py).
-/
namespace Go.Proofs.Ytnoegbdmjinfjaa
set_option maxRecDepth 20000
open Go.RowKit

set_option maxRecDepth 1000000 in
set_option maxHeartbeats 8000000 in
theorem wh_k8 (w1 : World) (T : Nat) (cap id : Int) (ys : List A20) (N c : Nat) (ad : Option Addr) (c3 c4 c5 c7 c9 c23 c24 c25 c26 c27 c28 c29 c30 c31 c32 c33 c34 c35 c36 c37 c38 c39 c185 : Value) (n : Nat) (wr : World) (K : Act → World → Prop) (Q : Exit → Act → World → Prop) (k : Nat) (s : Sd) (B : Nat → Prop) (d : List Int) (dv : Value) (h w : Int) (l : Bool)
    (u6 u15 u16 u17 u18 u19 u20 u21 u22 u40 u41 u42 u43 u44 u45 u46 u47 u48 u49 u50 u51 u52 u53 u54 u55 u56 u57 u58 u59 u60 u61 u62 u63 u64 u65 u66 u67 u68 u69 u70 u71 u72 u73 u74 u75 u76 u77 u78 u79 u80 u81 u82 u83 u84 u85 u86 u87 u88 u89 u90 u91 u92 u93 u94 u95 u96 u97 u98 u99 u100 u101 u102 u103 u104 u105 u106 u107 u108 u109 u110 u111 u112 u113 u114 u115 u116 u117 u118 u119 u120 u121 u122 u123 u124 u125 u126 u127 u128 u129 u130 u131 u132 u133 u134 u135 u136 u137 u138 u139 u140 u141 u142 u143 u144 u145 u146 u147 u148 u149 u150 u151 u152 u153 u154 u155 u156 u157 u158 u159 u160 u161 u162 u163 u164 u165 u166 u167 u168 u169 u170 u171 u172 u173 u174 u175 u176 u177 u178 u179 u180 u181 u182 u183 u184 : Value)
    (hK : Hid (∀ (m : Nat) (u6 u10 u11 u12 u13 u14 u15 u16 u17 u18 u19 u20 u21 u22 u40 u41 u42 u43 u44 u45 u46 u47 u48 u49 u50 u51 u52 u53 u54 u55 u56 u57 u58 u59 u60 u61 u62 u63 u64 u65 u66 u67 u68 u69 u70 u71 u72 u73 u74 u75 u76 u77 u78 u79 u80 u81 u82 u83 u84 u85 u86 u87 u88 u89 u90 u91 u92 u93 u94 u95 u96 u97 u98 u99 u100 u101 u102 u103 u104 u105 u106 u107 u108 u109 u110 u111 u112 u113 u114 u115 u116 u117 u118 u119 u120 u121 u122 u123 u124 u125 u126 u127 u128 u129 u130 u131 u132 u133 u134 u135 u136 u137 u138 u139 u140 u141 u142 u143 u144 u145 u146 u147 u148 u149 u150 u151 u152 u153 u154 u155 u156 u157 u158 u159 u160 u161 u162 u163 u164 u165 u166 u167 u168 u169 u170 u171 u172 u173 u174 u175 u176 u177 u178 u179 u180 u181 u182 u183 u184 : Value) (w2 : World), m < n → wh_R w1 T cap id ys N c ad m u10 u11 u12 u13 u14 w2 → K ⟨#[.int .u16 cap, .slice ad N c, .int .i64 id, c3, c4, c5, u6, c7, .pointer (some ⟨T, 0, none⟩), c9, u10, u11, u12, u13, u14, u15, u16, u17, u18, u19, u20, u21, u22, c23, c24, c25, c26, c27, c28, c29, c30, c31, c32, c33, c34, c35, c36, c37, c38, c39, u40, u41, u42, u43, u44, u45, u46, u47, u48, u49, u50, u51, u52, u53, u54, u55, u56, u57, u58, u59, u60, u61, u62, u63, u64, u65, u66, u67, u68, u69, u70, u71, u72, u73, u74, u75, u76, u77, u78, u79, u80, u81, u82, u83, u84, u85, u86, u87, u88, u89, u90, u91, u92, u93, u94, u95, u96, u97, u98, u99, u100, u101, u102, u103, u104, u105, u106, u107, u108, u109, u110, u111, u112, u113, u114, u115, u116, u117, u118, u119, u120, u121, u122, u123, u124, u125, u126, u127, u128, u129, u130, u131, u132, u133, u134, u135, u136, u137, u138, u139, u140, u141, u142, u143, u144, u145, u146, u147, u148, u149, u150, u151, u152, u153, u154, u155, u156, u157, u158, u159, u160, u161, u162, u163, u164, u165, u166, u167, u168, u169, u170, u171, u172, u173, u174, u175, u176, u177, u178, u179, u180, u181, u182, u183, u184, c185], []⟩ w2))
    (HN : Hid (ys.length = N ∧ N ≤ 100)) (HS : Hid (SlA20 w1 (.slice ad N c) ys)) (HFX : Hid (∀ x ∈ ys, x.b.1.length ≤ 300)) (hc1 : N ≤ c) (hc2 : c ≤ 2 ^ 63 - 1) (HC : Hid (0 ≤ cap ∧ cap ≤ 65535)) (hkq : k + n = N) (HP : Hid (Wh20 w1 wr T B s cap id k d dv h l w)) (hlt : k < N) (hkind : ∀ x : A20, ys[k]? = some x → x.k % 10 = 8) :
    Code.wp Try.prog wh_body (Exit.then K Q) ⟨#[.int .u16 cap, .slice ad N c, .int .i64 id, c3, c4, c5, u6, c7, .pointer (some ⟨T, 0, none⟩), c9, dv, .int .i64 h, .bool l, .int .i64 w, .int .i64 (k : Int), u15, u16, u17, u18, u19, u20, u21, u22, c23, c24, c25, c26, c27, c28, c29, c30, c31, c32, c33, c34, c35, c36, c37, c38, c39, u40, u41, u42, u43, u44, u45, u46, u47, u48, u49, u50, u51, u52, u53, u54, u55, u56, u57, u58, u59, u60, u61, u62, u63, u64, u65, u66, u67, u68, u69, u70, u71, u72, u73, u74, u75, u76, u77, u78, u79, u80, u81, u82, u83, u84, u85, u86, u87, u88, u89, u90, u91, u92, u93, u94, u95, u96, u97, u98, u99, u100, u101, u102, u103, u104, u105, u106, u107, u108, u109, u110, u111, u112, u113, u114, u115, u116, u117, u118, u119, u120, u121, u122, u123, u124, u125, u126, u127, u128, u129, u130, u131, u132, u133, u134, u135, u136, u137, u138, u139, u140, u141, u142, u143, u144, u145, u146, u147, u148, u149, u150, u151, u152, u153, u154, u155, u156, u157, u158, u159, u160, u161, u162, u163, u164, u165, u166, u167, u168, u169, u170, u171, u172, u173, u174, u175, u176, u177, u178, u179, u180, u181, u182, u183, u184, c185], []⟩ wr := by
  conv => arg 2; whnf
  have HKQ := Lib.hid hkq
  have hk : k ≤ N := by omega
  obtain ⟨hcl, hch⟩ := HC.out
  have hwc : IntKind.i64.wrap cap = cap := wrap_i64_small (by omega) (by omega)
  clear hkq
  obtain ⟨x, hx⟩ : ∃ x, ys[k]? = some x := ⟨ys[k]'(by rw [HN.out.1]; exact hlt), List.getElem?_eq_getElem (by rw [HN.out.1]; exact hlt)⟩
  obtain ⟨ab, off, rfl, _⟩ := HS.out.1.at_ (i := k) (by rw [HN.out.1]; exact hlt)
  have HCl := Lib.hid (act_cells HS.out HN.out.1 hx)
  have hmem := List.mem_of_getElem? hx
  have HKd := Lib.hid (hkind _ hx)
  have HX := Lib.hid (HS.out.2 _ hmem)
  have HLb := Lib.hid (HFX.out _ hmem)
  obtain ⟨xk, xi, xn, xm, ⟨xb, bv⟩, xl⟩ := x
  have hsl := HX.out.s
  dsimp only at hsl HLb
  obtain ⟨xa, xc, rfl, _⟩ := hsl
  have hx0 := HX.out.k0
  have hx1 := HX.out.k1
  dsimp only at hx0 hx1
  have hdl := HP.out.dl
  obtain ⟨da, dc, rfl, hdcap, hdmax, _⟩ := (show _ from HP.out.sl)
  unfold maxLen at hdmax
  have HSm := Lib.hid (HP.out.j.i.small (by have := HN.out.2; omega))
  have hix := fun q => run_index_sl (P := Try.prog) (t := 22) (s := 6) slice20 (fun _ => by kernel_rfl) ab off N c k hlt q
  clear hmem hx hkind
  obtain ⟨c0, c1, c2, c3, c4, c5, c6⟩ := HCl.out wr HP.out.b
  obtain ⟨W2, hW2⟩ : ∃ W2, wr.alloc (.cells #[.int .u8 xk, .int .i64 xi, .int .i64 xn, .int .i64 xm, .slice xa xb.length xc, .bool xl] 39) = W2 := ⟨_, rfl⟩
  obtain ⟨g15, hg15⟩ : ∃ g, wr.heap.size = g := ⟨_, rfl⟩
  have hb2 : Below wr.heap.size wr W2 := by rw [← hW2]; exact (Below.refl _ _).alloc (Nat.le_refl _) _
  have hz2 : W2.heap[g15]? = some (.cells #[.int .u8 xk, .int .i64 xi, .int .i64 xn, .int .i64 xm, .slice xa xb.length xc, .bool xl] 39 (0, 0)) := by rw [← hW2, ← hg15]; exact heap_alloc_new _ _
  have HM2 := Lib.hid (show SdAt W2 T B s ∧ Below w1.heap.size w1 W2 ∧ W2.heap[g15]? = some (.cells #[.int .u8 xk, .int .i64 xi, .int .i64 xn, .int .i64 xm, .slice xa xb.length xc, .bool xl] 39 (0, 0)) ∧ ¬ B g15 ∧ Sl .u8 W2 (.slice da d.length dc) d from
    ⟨HP.out.p.turn (Turn.of_below hb2 (S := fun _ => False)) (fun _ _ e => e), HP.out.b.trans (hb2.mono HP.out.b.size), hz2, fun e => by have := HP.out.p.lt e; omega, HP.out.sl.below hb2⟩)
  have y0 : W2.cell? ⟨g15, 0, none⟩ = some (.int .u8 xk) := blk_cell (j := 0) hz2 rfl
  have y1 : W2.cell? ⟨g15, 1, none⟩ = some (.int .i64 xi) := blk_cell (j := 1) hz2 rfl
  have y2 : W2.cell? ⟨g15, 2, none⟩ = some (.int .i64 xn) := blk_cell (j := 2) hz2 rfl
  have y3 : W2.cell? ⟨g15, 3, none⟩ = some (.int .i64 xm) := blk_cell (j := 3) hz2 rfl
  have y4 : W2.cell? ⟨g15, 4, none⟩ = some (.slice xa xb.length xc) := blk_cell (j := 4) hz2 rfl
  have y5 : W2.cell? ⟨g15, 5, none⟩ = some (.bool xl) := blk_cell (j := 5) hz2 rfl
  have y6 := (Array.getElem?_eq_some_iff.1 hz2).1
  clear hb2 hz2
  go_wp2_with fail
  refine (said20_any T B s ⟨xk, xi, xn, xm, (xb, .slice xa xb.length xc), xl⟩ W2 HM2.out.1 (HX.out.below HM2.out.2.1) HSm.out (by have := HLb.out; dsimp only; omega) (fun h1 g hg e => by have := HX.out.s.lt0 h1 hg; have := HP.out.gB g e; omega)).mono ?_
  rintro e w3 ⟨pv, B2, rfl, hp, hpb, hs2, ht2, hB2⟩
  obtain ⟨s2, hq⟩ : ∃ s2, aQ s ⟨xk, xi, xn, xm, (xb, .slice xa xb.length xc), xl⟩ = s2 := ⟨_, rfl⟩
  obtain ⟨F, hF⟩ : ∃ F, aF s ⟨xk, xi, xn, xm, (xb, .slice xa xb.length xc), xl⟩ = F := ⟨_, rfl⟩
  obtain ⟨N0, hN0⟩ : ∃ x, aN s ⟨xk, xi, xn, xm, (xb, .slice xa xb.length xc), xl⟩ = x := ⟨_, rfl⟩
  obtain ⟨I0, hI0⟩ : ∃ x, aI s ⟨xk, xi, xn, xm, (xb, .slice xa xb.length xc), xl⟩ = x := ⟨_, rfl⟩
  obtain ⟨E0, hE0⟩ : ∃ x, aE s ⟨xk, xi, xn, xm, (xb, .slice xa xb.length xc), xl⟩ = x := ⟨_, rfl⟩
  rw [hF] at hp hpb
  rw [hq] at hs2
  rw [hF, hN0, hI0, hE0]
  have HE := Lib.hid (And.intro hF (And.intro hN0 (And.intro hI0 (And.intro hE0 hq))))
  clear hF hN0 hI0 hE0 hq
  obtain ⟨fk, fl, fs, fp⟩ := F
  dsimp only at hp hpb HE ⊢
  obtain ⟨pa, pc, rfl, _⟩ := (show _ from hp)
  obtain ⟨W4, hW4⟩ : ∃ W4, w3.alloc (.cells #[.int .i64 fk, .int .i64 fl, .int .i64 fs, .slice pa fp.length pc, .int .i64 N0, .bool I0, .int .i64 E0] 36) = W4 := ⟨_, rfl⟩
  obtain ⟨g16, hg16⟩ : ∃ g, w3.heap.size = g := ⟨_, rfl⟩
  have hb4 : Below w3.heap.size w3 W4 := by rw [← hW4]; exact (Below.refl _ _).alloc (Nat.le_refl _) _
  have hz4 : W4.heap[g16]? = some (.cells #[.int .i64 fk, .int .i64 fl, .int .i64 fs, .slice pa fp.length pc, .int .i64 N0, .bool I0, .int .i64 E0] 36 (0, 0)) := by rw [← hW4, ← hg16]; exact heap_alloc_new _ _
  have HM4 := Lib.hid (show Md20 w1 W4 T B2 s2 d (.slice da d.length dc) g15 g16 #[.int .u8 xk, .int .i64 xi, .int .i64 xn, .int .i64 xm, .slice xa xb.length xc, .bool xl] #[.int .i64 fk, .int .i64 fl, .int .i64 fs, .slice pa fp.length pc, .int .i64 N0, .bool I0, .int .i64 E0] from by
    have hb3 := ht2.base HM2.out.2.1 HM2.out.2.1.size HP.out.gB
    refine ⟨hs2.turn (Turn.of_below hb4 (S := fun _ => False)) (fun _ _ e => e), hb3.trans (hb4.mono hb3.size), fun g hg => (hB2 g hg).elim (HP.out.gB g) (Nat.le_trans HM2.out.2.1.size), (HM2.out.2.2.2.2.turn0 ht2 HP.out.nb).below hb4, fun h1 g hg e => ?_, (Turn.of_below hb4 (S := fun _ => False)).obj (ht2.obj HM2.out.2.2.1 HM2.out.2.2.2.1) (fun e => e), hz4⟩
    rcases hB2 g e with e | e
    · exact HP.out.nb h1 g hg e
    · have := HM2.out.2.2.2.2.lt0 h1 hg; omega)
  have HPv := Lib.hid (hp.below hb4)
  have HJ' := Lib.hid (HP.out.j)
  clear hs2 ht2 hB2 hp hpb c0 c1 c2 c3 c4 c5 c6 y0 y1 y2 y3 y4 y5 y6 hb4 hz4 hW2
  have HI2 := Lib.hid (show Inv20 (k + 1) s2 from by rw [← HE.out.2.2.2.2]; exact HP.out.j.i.act HLb.out)
  have HS2 := Lib.hid (HI2.out.small (by have := HN.out.2; omega))
  have HSum := Lib.hid (show (sumB s2.l : Int) ≤ cap from by rw [← HE.out.2.2.2.2]; exact sum_act HP.out.j HLb.out)
  have hsum := HSum.out
  have dq : decide (cap < (sumB s2.l : Int)) = false := decide_eq_false (by omega)
  have dq0 : decide ((sumB s2.l : Int) < 0) = false := decide_eq_false (by omega)
  go_wp2_with fail
  refine (pWaiting20 HM4.out.p HS2.out).mono ?_
  rintro e w5 ⟨rfl, hb5⟩
  have HM5 := Lib.hid (And.intro (HM4.out.grown hb5) (HPv.out.below hb5))
  clear hb5 hW4 hg16 hg15
  go_wp2_with fail
  refine (pWaiting20 HM5.out.1.p HS2.out).mono ?_
  rintro e w6 ⟨rfl, hb6⟩
  have HM := Lib.hid (HM5.out.1.grown hb6)
  have HPy := Lib.hid (HM5.out.2.below hb6)
  clear hb6
  have y0 : w6.cell? ⟨g15, 0, none⟩ = some (.int .u8 xk) := blk_cell (j := 0) HM.out.z15 rfl
  have y1 : w6.cell? ⟨g15, 1, none⟩ = some (.int .i64 xi) := blk_cell (j := 1) HM.out.z15 rfl
  have y2 : w6.cell? ⟨g15, 2, none⟩ = some (.int .i64 xn) := blk_cell (j := 2) HM.out.z15 rfl
  have y3 : w6.cell? ⟨g15, 3, none⟩ = some (.int .i64 xm) := blk_cell (j := 3) HM.out.z15 rfl
  have y4 : w6.cell? ⟨g15, 4, none⟩ = some (.slice xa xb.length xc) := blk_cell (j := 4) HM.out.z15 rfl
  have y5 : w6.cell? ⟨g15, 5, none⟩ = some (.bool xl) := blk_cell (j := 5) HM.out.z15 rfl
  have y6 := (Array.getElem?_eq_some_iff.1 HM.out.z15).1
  have z0 : w6.cell? ⟨g16, 0, none⟩ = some (.int .i64 fk) := blk_cell (j := 0) HM.out.z16 rfl
  have z1 : w6.cell? ⟨g16, 1, none⟩ = some (.int .i64 fl) := blk_cell (j := 1) HM.out.z16 rfl
  have z2 : w6.cell? ⟨g16, 2, none⟩ = some (.int .i64 fs) := blk_cell (j := 2) HM.out.z16 rfl
  have z3 : w6.cell? ⟨g16, 3, none⟩ = some (.slice pa fp.length pc) := blk_cell (j := 3) HM.out.z16 rfl
  have z4 : w6.cell? ⟨g16, 4, none⟩ = some (.int .i64 N0) := blk_cell (j := 4) HM.out.z16 rfl
  have z5 : w6.cell? ⟨g16, 5, none⟩ = some (.bool I0) := blk_cell (j := 5) HM.out.z16 rfl
  have z6 : w6.cell? ⟨g16, 6, none⟩ = some (.int .i64 E0) := blk_cell (j := 6) HM.out.z16 rfl
  have z7 := (Array.getElem?_eq_some_iff.1 HM.out.z16).1
  clear hsum
  have HLt := Lib.hid hlt
  have hj : xk % 10 = 8 := HKd.out
  have e0 : (xk % 10 == 0) = false := by rw [hj]; rfl
  have e1 : (xk % 10 == 1) = false := by rw [hj]; rfl
  have e2 : (xk % 10 == 2) = false := by rw [hj]; rfl
  have e3 : (xk % 10 == 3) = false := by rw [hj]; rfl
  have e4 : (xk % 10 == 4) = false := by rw [hj]; rfl
  have e5 : (xk % 10 == 5) = false := by rw [hj]; rfl
  have e7 : decide (7 ≤ xk % 10) = true := by rw [hj]; rfl
  have HJ := Lib.hid hj
  have HE0 := Lib.hid (show E0 = 0 from by rw [← HE.out.2.2.2.1]; unfold aE; rw [HJ.out]; rfl)
  have ee : (E0 != 0) = false := by rw [bne_eq_false_iff_eq]; exact HE0.out
  have HA := Lib.hid (act_next HP.out.j HLb.out (x := ⟨xk, xi, xn, xm, (xb, .slice xa xb.length xc), xl⟩) (by have := HJ.out; dsimp only; omega))
  rw [HE.out.1, HE.out.2.2.1, HE.out.2.2.2.2] at HA
  dsimp only at HA
  cases I0
  · by_cases hid : xi = id
    · have ei : (xi != id) = false := by rw [bne_eq_false_iff_eq]; exact hid
      clear hid
      go_wp2_with fail
      exact hK.out (N - (k + 1)) _ _ _ _ _ _ _ _ _ _ _ _ _ _ _ _ _ _ _ _ _ _ _ _ _ _ _ _ _ _ _ _ _ _ _ _ _ _ _ _ _ _ _ _ _ _ _ _ _ _ _ _ _ _ _ _ _ _ _ _ _ _ _ _ _ _ _ _ _ _ _ _ _ _ _ _ _ _ _ _ _ _ _ _ _ _ _ _ _ _ _ _ _ _ _ _ _ _ _ _ _ _ _ _ _ _ _ _ _ _ _ _ _ _ _ _ _ _ _ _ _ _ _ _ _ _ _ _ _ _ _ _ _ _ _ _ _ _ _ _ _ _ _ _ _ _ _ _ _ _ _ _ _ _ _ _ _ _ _ _ (by have := HKQ.out; have := HLt.out; omega) (⟨k + 1, by have := HLt.out; omega, by go_num, h, l, w, rfl, rfl, rfl, Lib.hid ⟨s2, B2, d, HM.out.end_ (HA.out.2 (fun e => by cases e.1)) (by have := HP.out.dl; omega) HP.out.ww⟩⟩)
    · have ei : (xi != id) = true := by rw [bne_iff_ne]; exact hid
      clear hid
      go_wp2_with fail
      exact hK.out (N - (k + 1)) _ _ _ _ _ _ _ _ _ _ _ _ _ _ _ _ _ _ _ _ _ _ _ _ _ _ _ _ _ _ _ _ _ _ _ _ _ _ _ _ _ _ _ _ _ _ _ _ _ _ _ _ _ _ _ _ _ _ _ _ _ _ _ _ _ _ _ _ _ _ _ _ _ _ _ _ _ _ _ _ _ _ _ _ _ _ _ _ _ _ _ _ _ _ _ _ _ _ _ _ _ _ _ _ _ _ _ _ _ _ _ _ _ _ _ _ _ _ _ _ _ _ _ _ _ _ _ _ _ _ _ _ _ _ _ _ _ _ _ _ _ _ _ _ _ _ _ _ _ _ _ _ _ _ _ _ _ _ _ _ (by have := HKQ.out; have := HLt.out; omega) (⟨k + 1, by have := HLt.out; omega, by go_num, h, l, w, rfl, rfl, rfl, Lib.hid ⟨s2, B2, d, HM.out.end_ (HA.out.2 (fun e => by cases e.1)) (by have := HP.out.dl; omega) HP.out.ww⟩⟩)
  · by_cases hfs : fs = id
    · have hA := HA.out.1 rfl hfs
      have ef : (fs == id) = true := by rw [beq_iff_eq]; exact hfs
      have HW := Lib.hid hA
      clear hA hfs
      go_wp2_with fail
      refine (went20_yes ⟨fk, fl, fs, fp⟩ (.slice pa fp.length pc) d (.slice da d.length dc) l h w6 HPy.out HM.out.sl HW.out.1).mono ?_
      rintro e w7 ⟨rfl, hb7⟩
      have HM7 := Lib.hid (HM.out.grown hb7)
      clear hb7 y0 y1 y2 y3 y4 y5 y6 z0 z1 z2 z3 z4 z5 z6 z7
      have y2 : w7.cell? ⟨g15, 2, none⟩ = some (.int .i64 xn) := blk_cell (j := 2) HM7.out.z15 rfl
      have y3 : w7.cell? ⟨g15, 3, none⟩ = some (.int .i64 xm) := blk_cell (j := 3) HM7.out.z15 rfl
      have y6 := (Array.getElem?_eq_some_iff.1 HM7.out.z15).1
      have z0 : w7.cell? ⟨g16, 0, none⟩ = some (.int .i64 fk) := blk_cell (j := 0) HM7.out.z16 rfl
      have z3 : w7.cell? ⟨g16, 3, none⟩ = some (.slice pa fp.length pc) := blk_cell (j := 3) HM7.out.z16 rfl
      have z7 := (Array.getElem?_eq_some_iff.1 HM7.out.z16).1
      by_cases hfk : fk = 0
      · have ek : (fk == 0) = true := by rw [beq_iff_eq]; exact hfk
        have HJn := Lib.hid (show J20 (k + 1) s2 cap id (d.drop fp.length) 2 l (w - fp.length) from by have h1 := HW.out.2.2; rw [if_pos hfk, if_pos hfk] at h1; exact h1)
        have HLe := Lib.hid (show fp.length ≤ d.length from by
          rcases went_cases HW.out.1 with h1 | h1
          · have := h1.1; dsimp only at this; omega
          · exact h1.2.2.1)
        have hww := winB_rng HP.out.ww
        have HWw := Lib.hid hww
        by_cases hp0 : 0 < fp.length
        · have hlim := HW.out.2.1 hfk hp0
          have ep : decide ((0 : Int) < (fp.length : Int)) = true := decide_eq_true (by omega)
          have ep' : decide (0 < fp.length) = true := decide_eq_true hp0
          have l1 : decide (w < (fp.length : Int)) = false := decide_eq_false (by omega)
          have l2 : decide (xn < (fp.length : Int)) = false := decide_eq_false (by omega)
          have l3 : decide (xm < (fp.length : Int)) = false := decide_eq_false (by omega)
          have hsub : IntKind.i64.wrap (w - (fp.length : Int)) = w - (fp.length : Int) := wrap_mid20 (by omega) (by omega)
          have HWn := Lib.hid (show winB (w - (fp.length : Int)) = true from decide_eq_true (by omega))
          obtain ⟨ar, cr, hrr, hsr, hor⟩ := cut_rest HM7.out.sl fp.length HLe.out
          have HMr := Lib.hid (show Md20 w1 w7 T B2 s2 (d.drop fp.length) (.slice ar (d.length - fp.length) cr) g15 g16 _ _ from ⟨HM7.out.p, HM7.out.b, HM7.out.gB, hsr, fun h1 g hg => HM7.out.nb (fun e => h1 (by rw [e]; simp)) g (hor g hg), HM7.out.z15, HM7.out.z16⟩)
          clear hlim hsr hor hww hfk hp0
          go_wp2_with fail
          exact hK.out (N - (k + 1)) _ _ _ _ _ _ _ _ _ _ _ _ _ _ _ _ _ _ _ _ _ _ _ _ _ _ _ _ _ _ _ _ _ _ _ _ _ _ _ _ _ _ _ _ _ _ _ _ _ _ _ _ _ _ _ _ _ _ _ _ _ _ _ _ _ _ _ _ _ _ _ _ _ _ _ _ _ _ _ _ _ _ _ _ _ _ _ _ _ _ _ _ _ _ _ _ _ _ _ _ _ _ _ _ _ _ _ _ _ _ _ _ _ _ _ _ _ _ _ _ _ _ _ _ _ _ _ _ _ _ _ _ _ _ _ _ _ _ _ _ _ _ _ _ _ _ _ _ _ _ _ _ _ _ _ _ _ _ _ _ (by have := HKQ.out; have := HLt.out; omega) (⟨k + 1, by have := HLt.out; omega, by go_num, 2, l, (w - (fp.length : Int)), rfl, rfl, rfl, Lib.hid ⟨s2, B2, (d.drop fp.length), HMr.out.end_ HJn.out (by rw [List.length_drop]; have := HP.out.dl; omega) HWn.out⟩⟩)
        · have ep : decide ((0 : Int) < (fp.length : Int)) = false := decide_eq_false (by omega)
          have ep' : decide (0 < fp.length) = false := decide_eq_false hp0
          have hsub : IntKind.i64.wrap (w - (fp.length : Int)) = w - (fp.length : Int) := wrap_mid20 (by omega) (by omega)
          have HWn := Lib.hid (show winB (w - (fp.length : Int)) = true from decide_eq_true (by omega))
          obtain ⟨ar, cr, hrr, hsr, hor⟩ := cut_rest HM7.out.sl fp.length HLe.out
          have HMr := Lib.hid (show Md20 w1 w7 T B2 s2 (d.drop fp.length) (.slice ar (d.length - fp.length) cr) g15 g16 _ _ from ⟨HM7.out.p, HM7.out.b, HM7.out.gB, hsr, fun h1 g hg => HM7.out.nb (fun e => h1 (by rw [e]; simp)) g (hor g hg), HM7.out.z15, HM7.out.z16⟩)
          clear hsr hor hww hfk hp0
          go_wp2_with fail
          exact hK.out (N - (k + 1)) _ _ _ _ _ _ _ _ _ _ _ _ _ _ _ _ _ _ _ _ _ _ _ _ _ _ _ _ _ _ _ _ _ _ _ _ _ _ _ _ _ _ _ _ _ _ _ _ _ _ _ _ _ _ _ _ _ _ _ _ _ _ _ _ _ _ _ _ _ _ _ _ _ _ _ _ _ _ _ _ _ _ _ _ _ _ _ _ _ _ _ _ _ _ _ _ _ _ _ _ _ _ _ _ _ _ _ _ _ _ _ _ _ _ _ _ _ _ _ _ _ _ _ _ _ _ _ _ _ _ _ _ _ _ _ _ _ _ _ _ _ _ _ _ _ _ _ _ _ _ _ _ _ _ _ _ _ _ _ _ (by have := HKQ.out; have := HLt.out; omega) (⟨k + 1, by have := HLt.out; omega, by go_num, 2, l, (w - (fp.length : Int)), rfl, rfl, rfl, Lib.hid ⟨s2, B2, (d.drop fp.length), HMr.out.end_ HJn.out (by rw [List.length_drop]; have := HP.out.dl; omega) HWn.out⟩⟩)
      · have ek : (fk == 0) = false := by rw [beq_eq_false_iff_ne]; exact hfk
        have HJn := Lib.hid (show J20 (k + 1) s2 cap id d 2 l w from by have h1 := HW.out.2.2; rw [if_neg hfk, if_neg hfk] at h1; exact h1)
        clear hfk
        go_wp2_with fail
        exact hK.out (N - (k + 1)) _ _ _ _ _ _ _ _ _ _ _ _ _ _ _ _ _ _ _ _ _ _ _ _ _ _ _ _ _ _ _ _ _ _ _ _ _ _ _ _ _ _ _ _ _ _ _ _ _ _ _ _ _ _ _ _ _ _ _ _ _ _ _ _ _ _ _ _ _ _ _ _ _ _ _ _ _ _ _ _ _ _ _ _ _ _ _ _ _ _ _ _ _ _ _ _ _ _ _ _ _ _ _ _ _ _ _ _ _ _ _ _ _ _ _ _ _ _ _ _ _ _ _ _ _ _ _ _ _ _ _ _ _ _ _ _ _ _ _ _ _ _ _ _ _ _ _ _ _ _ _ _ _ _ _ _ _ _ _ _ (by have := HKQ.out; have := HLt.out; omega) (⟨k + 1, by have := HLt.out; omega, by go_num, 2, l, w, rfl, rfl, rfl, Lib.hid ⟨s2, B2, d, HM7.out.end_ HJn.out (by have := HP.out.dl; omega) HP.out.ww⟩⟩)
    · have ef : (fs == id) = false := by rw [beq_eq_false_iff_ne]; exact hfs
      have HFs := Lib.hid hfs
      clear hfs
      by_cases hid : xi = id
      · have ei : (xi != id) = false := by rw [bne_eq_false_iff_eq]; exact hid
        clear hid
        go_wp2_with fail
        exact hK.out (N - (k + 1)) _ _ _ _ _ _ _ _ _ _ _ _ _ _ _ _ _ _ _ _ _ _ _ _ _ _ _ _ _ _ _ _ _ _ _ _ _ _ _ _ _ _ _ _ _ _ _ _ _ _ _ _ _ _ _ _ _ _ _ _ _ _ _ _ _ _ _ _ _ _ _ _ _ _ _ _ _ _ _ _ _ _ _ _ _ _ _ _ _ _ _ _ _ _ _ _ _ _ _ _ _ _ _ _ _ _ _ _ _ _ _ _ _ _ _ _ _ _ _ _ _ _ _ _ _ _ _ _ _ _ _ _ _ _ _ _ _ _ _ _ _ _ _ _ _ _ _ _ _ _ _ _ _ _ _ _ _ _ _ _ (by have := HKQ.out; have := HLt.out; omega) (⟨k + 1, by have := HLt.out; omega, by go_num, h, l, w, rfl, rfl, rfl, Lib.hid ⟨s2, B2, d, HM.out.end_ (HA.out.2 (fun e => HFs.out e.2)) (by have := HP.out.dl; omega) HP.out.ww⟩⟩)
      · have ei : (xi != id) = true := by rw [bne_iff_ne]; exact hid
        clear hid
        go_wp2_with fail
        exact hK.out (N - (k + 1)) _ _ _ _ _ _ _ _ _ _ _ _ _ _ _ _ _ _ _ _ _ _ _ _ _ _ _ _ _ _ _ _ _ _ _ _ _ _ _ _ _ _ _ _ _ _ _ _ _ _ _ _ _ _ _ _ _ _ _ _ _ _ _ _ _ _ _ _ _ _ _ _ _ _ _ _ _ _ _ _ _ _ _ _ _ _ _ _ _ _ _ _ _ _ _ _ _ _ _ _ _ _ _ _ _ _ _ _ _ _ _ _ _ _ _ _ _ _ _ _ _ _ _ _ _ _ _ _ _ _ _ _ _ _ _ _ _ _ _ _ _ _ _ _ _ _ _ _ _ _ _ _ _ _ _ _ _ _ _ _ (by have := HKQ.out; have := HLt.out; omega) (⟨k + 1, by have := HLt.out; omega, by go_num, h, l, w, rfl, rfl, rfl, Lib.hid ⟨s2, B2, d, HM.out.end_ (HA.out.2 (fun e => HFs.out e.2)) (by have := HP.out.dl; omega) HP.out.ww⟩⟩)
set_option maxRecDepth 1000000 in
set_option maxHeartbeats 8000000 in
theorem wh_k9 (w1 : World) (T : Nat) (cap id : Int) (ys : List A20) (N c : Nat) (ad : Option Addr) (c3 c4 c5 c7 c9 c23 c24 c25 c26 c27 c28 c29 c30 c31 c32 c33 c34 c35 c36 c37 c38 c39 c185 : Value) (n : Nat) (wr : World) (K : Act → World → Prop) (Q : Exit → Act → World → Prop) (k : Nat) (s : Sd) (B : Nat → Prop) (d : List Int) (dv : Value) (h w : Int) (l : Bool)
    (u6 u15 u16 u17 u18 u19 u20 u21 u22 u40 u41 u42 u43 u44 u45 u46 u47 u48 u49 u50 u51 u52 u53 u54 u55 u56 u57 u58 u59 u60 u61 u62 u63 u64 u65 u66 u67 u68 u69 u70 u71 u72 u73 u74 u75 u76 u77 u78 u79 u80 u81 u82 u83 u84 u85 u86 u87 u88 u89 u90 u91 u92 u93 u94 u95 u96 u97 u98 u99 u100 u101 u102 u103 u104 u105 u106 u107 u108 u109 u110 u111 u112 u113 u114 u115 u116 u117 u118 u119 u120 u121 u122 u123 u124 u125 u126 u127 u128 u129 u130 u131 u132 u133 u134 u135 u136 u137 u138 u139 u140 u141 u142 u143 u144 u145 u146 u147 u148 u149 u150 u151 u152 u153 u154 u155 u156 u157 u158 u159 u160 u161 u162 u163 u164 u165 u166 u167 u168 u169 u170 u171 u172 u173 u174 u175 u176 u177 u178 u179 u180 u181 u182 u183 u184 : Value)
    (hK : Hid (∀ (m : Nat) (u6 u10 u11 u12 u13 u14 u15 u16 u17 u18 u19 u20 u21 u22 u40 u41 u42 u43 u44 u45 u46 u47 u48 u49 u50 u51 u52 u53 u54 u55 u56 u57 u58 u59 u60 u61 u62 u63 u64 u65 u66 u67 u68 u69 u70 u71 u72 u73 u74 u75 u76 u77 u78 u79 u80 u81 u82 u83 u84 u85 u86 u87 u88 u89 u90 u91 u92 u93 u94 u95 u96 u97 u98 u99 u100 u101 u102 u103 u104 u105 u106 u107 u108 u109 u110 u111 u112 u113 u114 u115 u116 u117 u118 u119 u120 u121 u122 u123 u124 u125 u126 u127 u128 u129 u130 u131 u132 u133 u134 u135 u136 u137 u138 u139 u140 u141 u142 u143 u144 u145 u146 u147 u148 u149 u150 u151 u152 u153 u154 u155 u156 u157 u158 u159 u160 u161 u162 u163 u164 u165 u166 u167 u168 u169 u170 u171 u172 u173 u174 u175 u176 u177 u178 u179 u180 u181 u182 u183 u184 : Value) (w2 : World), m < n → wh_R w1 T cap id ys N c ad m u10 u11 u12 u13 u14 w2 → K ⟨#[.int .u16 cap, .slice ad N c, .int .i64 id, c3, c4, c5, u6, c7, .pointer (some ⟨T, 0, none⟩), c9, u10, u11, u12, u13, u14, u15, u16, u17, u18, u19, u20, u21, u22, c23, c24, c25, c26, c27, c28, c29, c30, c31, c32, c33, c34, c35, c36, c37, c38, c39, u40, u41, u42, u43, u44, u45, u46, u47, u48, u49, u50, u51, u52, u53, u54, u55, u56, u57, u58, u59, u60, u61, u62, u63, u64, u65, u66, u67, u68, u69, u70, u71, u72, u73, u74, u75, u76, u77, u78, u79, u80, u81, u82, u83, u84, u85, u86, u87, u88, u89, u90, u91, u92, u93, u94, u95, u96, u97, u98, u99, u100, u101, u102, u103, u104, u105, u106, u107, u108, u109, u110, u111, u112, u113, u114, u115, u116, u117, u118, u119, u120, u121, u122, u123, u124, u125, u126, u127, u128, u129, u130, u131, u132, u133, u134, u135, u136, u137, u138, u139, u140, u141, u142, u143, u144, u145, u146, u147, u148, u149, u150, u151, u152, u153, u154, u155, u156, u157, u158, u159, u160, u161, u162, u163, u164, u165, u166, u167, u168, u169, u170, u171, u172, u173, u174, u175, u176, u177, u178, u179, u180, u181, u182, u183, u184, c185], []⟩ w2))
    (HN : Hid (ys.length = N ∧ N ≤ 100)) (HS : Hid (SlA20 w1 (.slice ad N c) ys)) (HFX : Hid (∀ x ∈ ys, x.b.1.length ≤ 300)) (hc1 : N ≤ c) (hc2 : c ≤ 2 ^ 63 - 1) (HC : Hid (0 ≤ cap ∧ cap ≤ 65535)) (hkq : k + n = N) (HP : Hid (Wh20 w1 wr T B s cap id k d dv h l w)) (hlt : k < N) (hkind : ∀ x : A20, ys[k]? = some x → x.k % 10 = 9) :
    Code.wp Try.prog wh_body (Exit.then K Q) ⟨#[.int .u16 cap, .slice ad N c, .int .i64 id, c3, c4, c5, u6, c7, .pointer (some ⟨T, 0, none⟩), c9, dv, .int .i64 h, .bool l, .int .i64 w, .int .i64 (k : Int), u15, u16, u17, u18, u19, u20, u21, u22, c23, c24, c25, c26, c27, c28, c29, c30, c31, c32, c33, c34, c35, c36, c37, c38, c39, u40, u41, u42, u43, u44, u45, u46, u47, u48, u49, u50, u51, u52, u53, u54, u55, u56, u57, u58, u59, u60, u61, u62, u63, u64, u65, u66, u67, u68, u69, u70, u71, u72, u73, u74, u75, u76, u77, u78, u79, u80, u81, u82, u83, u84, u85, u86, u87, u88, u89, u90, u91, u92, u93, u94, u95, u96, u97, u98, u99, u100, u101, u102, u103, u104, u105, u106, u107, u108, u109, u110, u111, u112, u113, u114, u115, u116, u117, u118, u119, u120, u121, u122, u123, u124, u125, u126, u127, u128, u129, u130, u131, u132, u133, u134, u135, u136, u137, u138, u139, u140, u141, u142, u143, u144, u145, u146, u147, u148, u149, u150, u151, u152, u153, u154, u155, u156, u157, u158, u159, u160, u161, u162, u163, u164, u165, u166, u167, u168, u169, u170, u171, u172, u173, u174, u175, u176, u177, u178, u179, u180, u181, u182, u183, u184, c185], []⟩ wr := by
  conv => arg 2; whnf
  have HKQ := Lib.hid hkq
  have hk : k ≤ N := by omega
  obtain ⟨hcl, hch⟩ := HC.out
  have hwc : IntKind.i64.wrap cap = cap := wrap_i64_small (by omega) (by omega)
  clear hkq
  obtain ⟨x, hx⟩ : ∃ x, ys[k]? = some x := ⟨ys[k]'(by rw [HN.out.1]; exact hlt), List.getElem?_eq_getElem (by rw [HN.out.1]; exact hlt)⟩
  obtain ⟨ab, off, rfl, _⟩ := HS.out.1.at_ (i := k) (by rw [HN.out.1]; exact hlt)
  have HCl := Lib.hid (act_cells HS.out HN.out.1 hx)
  have hmem := List.mem_of_getElem? hx
  have HKd := Lib.hid (hkind _ hx)
  have HX := Lib.hid (HS.out.2 _ hmem)
  have HLb := Lib.hid (HFX.out _ hmem)
  obtain ⟨xk, xi, xn, xm, ⟨xb, bv⟩, xl⟩ := x
  have hsl := HX.out.s
  dsimp only at hsl HLb
  obtain ⟨xa, xc, rfl, _⟩ := hsl
  have hx0 := HX.out.k0
  have hx1 := HX.out.k1
  dsimp only at hx0 hx1
  have hdl := HP.out.dl
  obtain ⟨da, dc, rfl, hdcap, hdmax, _⟩ := (show _ from HP.out.sl)
  unfold maxLen at hdmax
  have HSm := Lib.hid (HP.out.j.i.small (by have := HN.out.2; omega))
  have hix := fun q => run_index_sl (P := Try.prog) (t := 22) (s := 6) slice20 (fun _ => by kernel_rfl) ab off N c k hlt q
  clear hmem hx hkind
  obtain ⟨c0, c1, c2, c3, c4, c5, c6⟩ := HCl.out wr HP.out.b
  obtain ⟨W2, hW2⟩ : ∃ W2, wr.alloc (.cells #[.int .u8 xk, .int .i64 xi, .int .i64 xn, .int .i64 xm, .slice xa xb.length xc, .bool xl] 39) = W2 := ⟨_, rfl⟩
  obtain ⟨g15, hg15⟩ : ∃ g, wr.heap.size = g := ⟨_, rfl⟩
  have hb2 : Below wr.heap.size wr W2 := by rw [← hW2]; exact (Below.refl _ _).alloc (Nat.le_refl _) _
  have hz2 : W2.heap[g15]? = some (.cells #[.int .u8 xk, .int .i64 xi, .int .i64 xn, .int .i64 xm, .slice xa xb.length xc, .bool xl] 39 (0, 0)) := by rw [← hW2, ← hg15]; exact heap_alloc_new _ _
  have HM2 := Lib.hid (show SdAt W2 T B s ∧ Below w1.heap.size w1 W2 ∧ W2.heap[g15]? = some (.cells #[.int .u8 xk, .int .i64 xi, .int .i64 xn, .int .i64 xm, .slice xa xb.length xc, .bool xl] 39 (0, 0)) ∧ ¬ B g15 ∧ Sl .u8 W2 (.slice da d.length dc) d from
    ⟨HP.out.p.turn (Turn.of_below hb2 (S := fun _ => False)) (fun _ _ e => e), HP.out.b.trans (hb2.mono HP.out.b.size), hz2, fun e => by have := HP.out.p.lt e; omega, HP.out.sl.below hb2⟩)
  have y0 : W2.cell? ⟨g15, 0, none⟩ = some (.int .u8 xk) := blk_cell (j := 0) hz2 rfl
  have y1 : W2.cell? ⟨g15, 1, none⟩ = some (.int .i64 xi) := blk_cell (j := 1) hz2 rfl
  have y2 : W2.cell? ⟨g15, 2, none⟩ = some (.int .i64 xn) := blk_cell (j := 2) hz2 rfl
  have y3 : W2.cell? ⟨g15, 3, none⟩ = some (.int .i64 xm) := blk_cell (j := 3) hz2 rfl
  have y4 : W2.cell? ⟨g15, 4, none⟩ = some (.slice xa xb.length xc) := blk_cell (j := 4) hz2 rfl
  have y5 : W2.cell? ⟨g15, 5, none⟩ = some (.bool xl) := blk_cell (j := 5) hz2 rfl
  have y6 := (Array.getElem?_eq_some_iff.1 hz2).1
  clear hb2 hz2
  go_wp2_with fail
  refine (said20_any T B s ⟨xk, xi, xn, xm, (xb, .slice xa xb.length xc), xl⟩ W2 HM2.out.1 (HX.out.below HM2.out.2.1) HSm.out (by have := HLb.out; dsimp only; omega) (fun h1 g hg e => by have := HX.out.s.lt0 h1 hg; have := HP.out.gB g e; omega)).mono ?_
  rintro e w3 ⟨pv, B2, rfl, hp, hpb, hs2, ht2, hB2⟩
  obtain ⟨s2, hq⟩ : ∃ s2, aQ s ⟨xk, xi, xn, xm, (xb, .slice xa xb.length xc), xl⟩ = s2 := ⟨_, rfl⟩
  obtain ⟨F, hF⟩ : ∃ F, aF s ⟨xk, xi, xn, xm, (xb, .slice xa xb.length xc), xl⟩ = F := ⟨_, rfl⟩
  obtain ⟨N0, hN0⟩ : ∃ x, aN s ⟨xk, xi, xn, xm, (xb, .slice xa xb.length xc), xl⟩ = x := ⟨_, rfl⟩
  obtain ⟨I0, hI0⟩ : ∃ x, aI s ⟨xk, xi, xn, xm, (xb, .slice xa xb.length xc), xl⟩ = x := ⟨_, rfl⟩
  obtain ⟨E0, hE0⟩ : ∃ x, aE s ⟨xk, xi, xn, xm, (xb, .slice xa xb.length xc), xl⟩ = x := ⟨_, rfl⟩
  rw [hF] at hp hpb
  rw [hq] at hs2
  rw [hF, hN0, hI0, hE0]
  have HE := Lib.hid (And.intro hF (And.intro hN0 (And.intro hI0 (And.intro hE0 hq))))
  clear hF hN0 hI0 hE0 hq
  obtain ⟨fk, fl, fs, fp⟩ := F
  dsimp only at hp hpb HE ⊢
  obtain ⟨pa, pc, rfl, _⟩ := (show _ from hp)
  obtain ⟨W4, hW4⟩ : ∃ W4, w3.alloc (.cells #[.int .i64 fk, .int .i64 fl, .int .i64 fs, .slice pa fp.length pc, .int .i64 N0, .bool I0, .int .i64 E0] 36) = W4 := ⟨_, rfl⟩
  obtain ⟨g16, hg16⟩ : ∃ g, w3.heap.size = g := ⟨_, rfl⟩
  have hb4 : Below w3.heap.size w3 W4 := by rw [← hW4]; exact (Below.refl _ _).alloc (Nat.le_refl _) _
  have hz4 : W4.heap[g16]? = some (.cells #[.int .i64 fk, .int .i64 fl, .int .i64 fs, .slice pa fp.length pc, .int .i64 N0, .bool I0, .int .i64 E0] 36 (0, 0)) := by rw [← hW4, ← hg16]; exact heap_alloc_new _ _
  have HM4 := Lib.hid (show Md20 w1 W4 T B2 s2 d (.slice da d.length dc) g15 g16 #[.int .u8 xk, .int .i64 xi, .int .i64 xn, .int .i64 xm, .slice xa xb.length xc, .bool xl] #[.int .i64 fk, .int .i64 fl, .int .i64 fs, .slice pa fp.length pc, .int .i64 N0, .bool I0, .int .i64 E0] from by
    have hb3 := ht2.base HM2.out.2.1 HM2.out.2.1.size HP.out.gB
    refine ⟨hs2.turn (Turn.of_below hb4 (S := fun _ => False)) (fun _ _ e => e), hb3.trans (hb4.mono hb3.size), fun g hg => (hB2 g hg).elim (HP.out.gB g) (Nat.le_trans HM2.out.2.1.size), (HM2.out.2.2.2.2.turn0 ht2 HP.out.nb).below hb4, fun h1 g hg e => ?_, (Turn.of_below hb4 (S := fun _ => False)).obj (ht2.obj HM2.out.2.2.1 HM2.out.2.2.2.1) (fun e => e), hz4⟩
    rcases hB2 g e with e | e
    · exact HP.out.nb h1 g hg e
    · have := HM2.out.2.2.2.2.lt0 h1 hg; omega)
  have HPv := Lib.hid (hp.below hb4)
  have HJ' := Lib.hid (HP.out.j)
  clear hs2 ht2 hB2 hp hpb c0 c1 c2 c3 c4 c5 c6 y0 y1 y2 y3 y4 y5 y6 hb4 hz4 hW2
  have HI2 := Lib.hid (show Inv20 (k + 1) s2 from by rw [← HE.out.2.2.2.2]; exact HP.out.j.i.act HLb.out)
  have HS2 := Lib.hid (HI2.out.small (by have := HN.out.2; omega))
  have HSum := Lib.hid (show (sumB s2.l : Int) ≤ cap from by rw [← HE.out.2.2.2.2]; exact sum_act HP.out.j HLb.out)
  have hsum := HSum.out
  have dq : decide (cap < (sumB s2.l : Int)) = false := decide_eq_false (by omega)
  have dq0 : decide ((sumB s2.l : Int) < 0) = false := decide_eq_false (by omega)
  go_wp2_with fail
  refine (pWaiting20 HM4.out.p HS2.out).mono ?_
  rintro e w5 ⟨rfl, hb5⟩
  have HM5 := Lib.hid (And.intro (HM4.out.grown hb5) (HPv.out.below hb5))
  clear hb5 hW4 hg16 hg15
  go_wp2_with fail
  refine (pWaiting20 HM5.out.1.p HS2.out).mono ?_
  rintro e w6 ⟨rfl, hb6⟩
  have HM := Lib.hid (HM5.out.1.grown hb6)
  have HPy := Lib.hid (HM5.out.2.below hb6)
  clear hb6
  have y0 : w6.cell? ⟨g15, 0, none⟩ = some (.int .u8 xk) := blk_cell (j := 0) HM.out.z15 rfl
  have y1 : w6.cell? ⟨g15, 1, none⟩ = some (.int .i64 xi) := blk_cell (j := 1) HM.out.z15 rfl
  have y2 : w6.cell? ⟨g15, 2, none⟩ = some (.int .i64 xn) := blk_cell (j := 2) HM.out.z15 rfl
  have y3 : w6.cell? ⟨g15, 3, none⟩ = some (.int .i64 xm) := blk_cell (j := 3) HM.out.z15 rfl
  have y4 : w6.cell? ⟨g15, 4, none⟩ = some (.slice xa xb.length xc) := blk_cell (j := 4) HM.out.z15 rfl
  have y5 : w6.cell? ⟨g15, 5, none⟩ = some (.bool xl) := blk_cell (j := 5) HM.out.z15 rfl
  have y6 := (Array.getElem?_eq_some_iff.1 HM.out.z15).1
  have z0 : w6.cell? ⟨g16, 0, none⟩ = some (.int .i64 fk) := blk_cell (j := 0) HM.out.z16 rfl
  have z1 : w6.cell? ⟨g16, 1, none⟩ = some (.int .i64 fl) := blk_cell (j := 1) HM.out.z16 rfl
  have z2 : w6.cell? ⟨g16, 2, none⟩ = some (.int .i64 fs) := blk_cell (j := 2) HM.out.z16 rfl
  have z3 : w6.cell? ⟨g16, 3, none⟩ = some (.slice pa fp.length pc) := blk_cell (j := 3) HM.out.z16 rfl
  have z4 : w6.cell? ⟨g16, 4, none⟩ = some (.int .i64 N0) := blk_cell (j := 4) HM.out.z16 rfl
  have z5 : w6.cell? ⟨g16, 5, none⟩ = some (.bool I0) := blk_cell (j := 5) HM.out.z16 rfl
  have z6 : w6.cell? ⟨g16, 6, none⟩ = some (.int .i64 E0) := blk_cell (j := 6) HM.out.z16 rfl
  have z7 := (Array.getElem?_eq_some_iff.1 HM.out.z16).1
  clear hsum
  have HLt := Lib.hid hlt
  have hj : xk % 10 = 9 := HKd.out
  have e0 : (xk % 10 == 0) = false := by rw [hj]; rfl
  have e1 : (xk % 10 == 1) = false := by rw [hj]; rfl
  have e2 : (xk % 10 == 2) = false := by rw [hj]; rfl
  have e3 : (xk % 10 == 3) = false := by rw [hj]; rfl
  have e4 : (xk % 10 == 4) = false := by rw [hj]; rfl
  have e5 : (xk % 10 == 5) = false := by rw [hj]; rfl
  have e7 : decide (7 ≤ xk % 10) = true := by rw [hj]; rfl
  have HJ := Lib.hid hj
  have HE0 := Lib.hid (show E0 = 0 from by rw [← HE.out.2.2.2.1]; unfold aE; rw [HJ.out]; rfl)
  have ee : (E0 != 0) = false := by rw [bne_eq_false_iff_eq]; exact HE0.out
  have HA := Lib.hid (act_next HP.out.j HLb.out (x := ⟨xk, xi, xn, xm, (xb, .slice xa xb.length xc), xl⟩) (by have := HJ.out; dsimp only; omega))
  rw [HE.out.1, HE.out.2.2.1, HE.out.2.2.2.2] at HA
  dsimp only at HA
  cases I0
  · by_cases hid : xi = id
    · have ei : (xi != id) = false := by rw [bne_eq_false_iff_eq]; exact hid
      clear hid
      go_wp2_with fail
      exact hK.out (N - (k + 1)) _ _ _ _ _ _ _ _ _ _ _ _ _ _ _ _ _ _ _ _ _ _ _ _ _ _ _ _ _ _ _ _ _ _ _ _ _ _ _ _ _ _ _ _ _ _ _ _ _ _ _ _ _ _ _ _ _ _ _ _ _ _ _ _ _ _ _ _ _ _ _ _ _ _ _ _ _ _ _ _ _ _ _ _ _ _ _ _ _ _ _ _ _ _ _ _ _ _ _ _ _ _ _ _ _ _ _ _ _ _ _ _ _ _ _ _ _ _ _ _ _ _ _ _ _ _ _ _ _ _ _ _ _ _ _ _ _ _ _ _ _ _ _ _ _ _ _ _ _ _ _ _ _ _ _ _ _ _ _ _ (by have := HKQ.out; have := HLt.out; omega) (⟨k + 1, by have := HLt.out; omega, by go_num, h, l, w, rfl, rfl, rfl, Lib.hid ⟨s2, B2, d, HM.out.end_ (HA.out.2 (fun e => by cases e.1)) (by have := HP.out.dl; omega) HP.out.ww⟩⟩)
    · have ei : (xi != id) = true := by rw [bne_iff_ne]; exact hid
      clear hid
      go_wp2_with fail
      exact hK.out (N - (k + 1)) _ _ _ _ _ _ _ _ _ _ _ _ _ _ _ _ _ _ _ _ _ _ _ _ _ _ _ _ _ _ _ _ _ _ _ _ _ _ _ _ _ _ _ _ _ _ _ _ _ _ _ _ _ _ _ _ _ _ _ _ _ _ _ _ _ _ _ _ _ _ _ _ _ _ _ _ _ _ _ _ _ _ _ _ _ _ _ _ _ _ _ _ _ _ _ _ _ _ _ _ _ _ _ _ _ _ _ _ _ _ _ _ _ _ _ _ _ _ _ _ _ _ _ _ _ _ _ _ _ _ _ _ _ _ _ _ _ _ _ _ _ _ _ _ _ _ _ _ _ _ _ _ _ _ _ _ _ _ _ _ (by have := HKQ.out; have := HLt.out; omega) (⟨k + 1, by have := HLt.out; omega, by go_num, h, l, w, rfl, rfl, rfl, Lib.hid ⟨s2, B2, d, HM.out.end_ (HA.out.2 (fun e => by cases e.1)) (by have := HP.out.dl; omega) HP.out.ww⟩⟩)
  · by_cases hfs : fs = id
    · have hA := HA.out.1 rfl hfs
      have ef : (fs == id) = true := by rw [beq_iff_eq]; exact hfs
      have HW := Lib.hid hA
      clear hA hfs
      go_wp2_with fail
      refine (went20_yes ⟨fk, fl, fs, fp⟩ (.slice pa fp.length pc) d (.slice da d.length dc) l h w6 HPy.out HM.out.sl HW.out.1).mono ?_
      rintro e w7 ⟨rfl, hb7⟩
      have HM7 := Lib.hid (HM.out.grown hb7)
      clear hb7 y0 y1 y2 y3 y4 y5 y6 z0 z1 z2 z3 z4 z5 z6 z7
      have y2 : w7.cell? ⟨g15, 2, none⟩ = some (.int .i64 xn) := blk_cell (j := 2) HM7.out.z15 rfl
      have y3 : w7.cell? ⟨g15, 3, none⟩ = some (.int .i64 xm) := blk_cell (j := 3) HM7.out.z15 rfl
      have y6 := (Array.getElem?_eq_some_iff.1 HM7.out.z15).1
      have z0 : w7.cell? ⟨g16, 0, none⟩ = some (.int .i64 fk) := blk_cell (j := 0) HM7.out.z16 rfl
      have z3 : w7.cell? ⟨g16, 3, none⟩ = some (.slice pa fp.length pc) := blk_cell (j := 3) HM7.out.z16 rfl
      have z7 := (Array.getElem?_eq_some_iff.1 HM7.out.z16).1
      by_cases hfk : fk = 0
      · have ek : (fk == 0) = true := by rw [beq_iff_eq]; exact hfk
        have HJn := Lib.hid (show J20 (k + 1) s2 cap id (d.drop fp.length) 2 l (w - fp.length) from by have h1 := HW.out.2.2; rw [if_pos hfk, if_pos hfk] at h1; exact h1)
        have HLe := Lib.hid (show fp.length ≤ d.length from by
          rcases went_cases HW.out.1 with h1 | h1
          · have := h1.1; dsimp only at this; omega
          · exact h1.2.2.1)
        have hww := winB_rng HP.out.ww
        have HWw := Lib.hid hww
        by_cases hp0 : 0 < fp.length
        · have hlim := HW.out.2.1 hfk hp0
          have ep : decide ((0 : Int) < (fp.length : Int)) = true := decide_eq_true (by omega)
          have ep' : decide (0 < fp.length) = true := decide_eq_true hp0
          have l1 : decide (w < (fp.length : Int)) = false := decide_eq_false (by omega)
          have l2 : decide (xn < (fp.length : Int)) = false := decide_eq_false (by omega)
          have l3 : decide (xm < (fp.length : Int)) = false := decide_eq_false (by omega)
          have hsub : IntKind.i64.wrap (w - (fp.length : Int)) = w - (fp.length : Int) := wrap_mid20 (by omega) (by omega)
          have HWn := Lib.hid (show winB (w - (fp.length : Int)) = true from decide_eq_true (by omega))
          obtain ⟨ar, cr, hrr, hsr, hor⟩ := cut_rest HM7.out.sl fp.length HLe.out
          have HMr := Lib.hid (show Md20 w1 w7 T B2 s2 (d.drop fp.length) (.slice ar (d.length - fp.length) cr) g15 g16 _ _ from ⟨HM7.out.p, HM7.out.b, HM7.out.gB, hsr, fun h1 g hg => HM7.out.nb (fun e => h1 (by rw [e]; simp)) g (hor g hg), HM7.out.z15, HM7.out.z16⟩)
          clear hlim hsr hor hww hfk hp0
          go_wp2_with fail
          exact hK.out (N - (k + 1)) _ _ _ _ _ _ _ _ _ _ _ _ _ _ _ _ _ _ _ _ _ _ _ _ _ _ _ _ _ _ _ _ _ _ _ _ _ _ _ _ _ _ _ _ _ _ _ _ _ _ _ _ _ _ _ _ _ _ _ _ _ _ _ _ _ _ _ _ _ _ _ _ _ _ _ _ _ _ _ _ _ _ _ _ _ _ _ _ _ _ _ _ _ _ _ _ _ _ _ _ _ _ _ _ _ _ _ _ _ _ _ _ _ _ _ _ _ _ _ _ _ _ _ _ _ _ _ _ _ _ _ _ _ _ _ _ _ _ _ _ _ _ _ _ _ _ _ _ _ _ _ _ _ _ _ _ _ _ _ _ (by have := HKQ.out; have := HLt.out; omega) (⟨k + 1, by have := HLt.out; omega, by go_num, 2, l, (w - (fp.length : Int)), rfl, rfl, rfl, Lib.hid ⟨s2, B2, (d.drop fp.length), HMr.out.end_ HJn.out (by rw [List.length_drop]; have := HP.out.dl; omega) HWn.out⟩⟩)
        · have ep : decide ((0 : Int) < (fp.length : Int)) = false := decide_eq_false (by omega)
          have ep' : decide (0 < fp.length) = false := decide_eq_false hp0
          have hsub : IntKind.i64.wrap (w - (fp.length : Int)) = w - (fp.length : Int) := wrap_mid20 (by omega) (by omega)
          have HWn := Lib.hid (show winB (w - (fp.length : Int)) = true from decide_eq_true (by omega))
          obtain ⟨ar, cr, hrr, hsr, hor⟩ := cut_rest HM7.out.sl fp.length HLe.out
          have HMr := Lib.hid (show Md20 w1 w7 T B2 s2 (d.drop fp.length) (.slice ar (d.length - fp.length) cr) g15 g16 _ _ from ⟨HM7.out.p, HM7.out.b, HM7.out.gB, hsr, fun h1 g hg => HM7.out.nb (fun e => h1 (by rw [e]; simp)) g (hor g hg), HM7.out.z15, HM7.out.z16⟩)
          clear hsr hor hww hfk hp0
          go_wp2_with fail
          exact hK.out (N - (k + 1)) _ _ _ _ _ _ _ _ _ _ _ _ _ _ _ _ _ _ _ _ _ _ _ _ _ _ _ _ _ _ _ _ _ _ _ _ _ _ _ _ _ _ _ _ _ _ _ _ _ _ _ _ _ _ _ _ _ _ _ _ _ _ _ _ _ _ _ _ _ _ _ _ _ _ _ _ _ _ _ _ _ _ _ _ _ _ _ _ _ _ _ _ _ _ _ _ _ _ _ _ _ _ _ _ _ _ _ _ _ _ _ _ _ _ _ _ _ _ _ _ _ _ _ _ _ _ _ _ _ _ _ _ _ _ _ _ _ _ _ _ _ _ _ _ _ _ _ _ _ _ _ _ _ _ _ _ _ _ _ _ (by have := HKQ.out; have := HLt.out; omega) (⟨k + 1, by have := HLt.out; omega, by go_num, 2, l, (w - (fp.length : Int)), rfl, rfl, rfl, Lib.hid ⟨s2, B2, (d.drop fp.length), HMr.out.end_ HJn.out (by rw [List.length_drop]; have := HP.out.dl; omega) HWn.out⟩⟩)
      · have ek : (fk == 0) = false := by rw [beq_eq_false_iff_ne]; exact hfk
        have HJn := Lib.hid (show J20 (k + 1) s2 cap id d 2 l w from by have h1 := HW.out.2.2; rw [if_neg hfk, if_neg hfk] at h1; exact h1)
        clear hfk
        go_wp2_with fail
        exact hK.out (N - (k + 1)) _ _ _ _ _ _ _ _ _ _ _ _ _ _ _ _ _ _ _ _ _ _ _ _ _ _ _ _ _ _ _ _ _ _ _ _ _ _ _ _ _ _ _ _ _ _ _ _ _ _ _ _ _ _ _ _ _ _ _ _ _ _ _ _ _ _ _ _ _ _ _ _ _ _ _ _ _ _ _ _ _ _ _ _ _ _ _ _ _ _ _ _ _ _ _ _ _ _ _ _ _ _ _ _ _ _ _ _ _ _ _ _ _ _ _ _ _ _ _ _ _ _ _ _ _ _ _ _ _ _ _ _ _ _ _ _ _ _ _ _ _ _ _ _ _ _ _ _ _ _ _ _ _ _ _ _ _ _ _ _ (by have := HKQ.out; have := HLt.out; omega) (⟨k + 1, by have := HLt.out; omega, by go_num, 2, l, w, rfl, rfl, rfl, Lib.hid ⟨s2, B2, d, HM7.out.end_ HJn.out (by have := HP.out.dl; omega) HP.out.ww⟩⟩)
    · have ef : (fs == id) = false := by rw [beq_eq_false_iff_ne]; exact hfs
      have HFs := Lib.hid hfs
      clear hfs
      by_cases hid : xi = id
      · have ei : (xi != id) = false := by rw [bne_eq_false_iff_eq]; exact hid
        clear hid
        go_wp2_with fail
        exact hK.out (N - (k + 1)) _ _ _ _ _ _ _ _ _ _ _ _ _ _ _ _ _ _ _ _ _ _ _ _ _ _ _ _ _ _ _ _ _ _ _ _ _ _ _ _ _ _ _ _ _ _ _ _ _ _ _ _ _ _ _ _ _ _ _ _ _ _ _ _ _ _ _ _ _ _ _ _ _ _ _ _ _ _ _ _ _ _ _ _ _ _ _ _ _ _ _ _ _ _ _ _ _ _ _ _ _ _ _ _ _ _ _ _ _ _ _ _ _ _ _ _ _ _ _ _ _ _ _ _ _ _ _ _ _ _ _ _ _ _ _ _ _ _ _ _ _ _ _ _ _ _ _ _ _ _ _ _ _ _ _ _ _ _ _ _ (by have := HKQ.out; have := HLt.out; omega) (⟨k + 1, by have := HLt.out; omega, by go_num, h, l, w, rfl, rfl, rfl, Lib.hid ⟨s2, B2, d, HM.out.end_ (HA.out.2 (fun e => HFs.out e.2)) (by have := HP.out.dl; omega) HP.out.ww⟩⟩)
      · have ei : (xi != id) = true := by rw [bne_iff_ne]; exact hid
        clear hid
        go_wp2_with fail
        exact hK.out (N - (k + 1)) _ _ _ _ _ _ _ _ _ _ _ _ _ _ _ _ _ _ _ _ _ _ _ _ _ _ _ _ _ _ _ _ _ _ _ _ _ _ _ _ _ _ _ _ _ _ _ _ _ _ _ _ _ _ _ _ _ _ _ _ _ _ _ _ _ _ _ _ _ _ _ _ _ _ _ _ _ _ _ _ _ _ _ _ _ _ _ _ _ _ _ _ _ _ _ _ _ _ _ _ _ _ _ _ _ _ _ _ _ _ _ _ _ _ _ _ _ _ _ _ _ _ _ _ _ _ _ _ _ _ _ _ _ _ _ _ _ _ _ _ _ _ _ _ _ _ _ _ _ _ _ _ _ _ _ _ _ _ _ _ (by have := HKQ.out; have := HLt.out; omega) (⟨k + 1, by have := HLt.out; omega, by go_num, h, l, w, rfl, rfl, rfl, Lib.hid ⟨s2, B2, d, HM.out.end_ (HA.out.2 (fun e => HFs.out e.2)) (by have := HP.out.dl; omega) HP.out.ww⟩⟩)
end Go.Proofs.Ytnoegbdmjinfjaa

/-
  Layer 20: SendWhole: the loop (written by wip/tools/gen20x.py).
-/
namespace Go.Proofs.Ytnoegbdmjinfjaa
set_option maxRecDepth 20000
open Go.RowKit

set_option maxRecDepth 1000000 in
set_option maxHeartbeats 4000000 in
theorem wh_end (w1 : World) (T : Nat) (cap id : Int) (ys : List A20) (N c : Nat) (ad : Option Addr) (c3 c4 c5 c7 c9 c23 c24 c25 c26 c27 c28 c29 c30 c31 c32 c33 c34 c35 c36 c37 c38 c39 c185 : Value) (n : Nat) (wr : World) (K : Act → World → Prop) (Q : Exit → Act → World → Prop) (k : Nat) (s : Sd) (B : Nat → Prop) (d : List Int) (dv : Value) (h w : Int) (l : Bool)
    (u6 u15 u16 u17 u18 u19 u20 u21 u22 u40 u41 u42 u43 u44 u45 u46 u47 u48 u49 u50 u51 u52 u53 u54 u55 u56 u57 u58 u59 u60 u61 u62 u63 u64 u65 u66 u67 u68 u69 u70 u71 u72 u73 u74 u75 u76 u77 u78 u79 u80 u81 u82 u83 u84 u85 u86 u87 u88 u89 u90 u91 u92 u93 u94 u95 u96 u97 u98 u99 u100 u101 u102 u103 u104 u105 u106 u107 u108 u109 u110 u111 u112 u113 u114 u115 u116 u117 u118 u119 u120 u121 u122 u123 u124 u125 u126 u127 u128 u129 u130 u131 u132 u133 u134 u135 u136 u137 u138 u139 u140 u141 u142 u143 u144 u145 u146 u147 u148 u149 u150 u151 u152 u153 u154 u155 u156 u157 u158 u159 u160 u161 u162 u163 u164 u165 u166 u167 u168 u169 u170 u171 u172 u173 u174 u175 u176 u177 u178 u179 u180 u181 u182 u183 u184 : Value)
    (hK : Hid (∀ (m : Nat) (u6 u10 u11 u12 u13 u14 u15 u16 u17 u18 u19 u20 u21 u22 u40 u41 u42 u43 u44 u45 u46 u47 u48 u49 u50 u51 u52 u53 u54 u55 u56 u57 u58 u59 u60 u61 u62 u63 u64 u65 u66 u67 u68 u69 u70 u71 u72 u73 u74 u75 u76 u77 u78 u79 u80 u81 u82 u83 u84 u85 u86 u87 u88 u89 u90 u91 u92 u93 u94 u95 u96 u97 u98 u99 u100 u101 u102 u103 u104 u105 u106 u107 u108 u109 u110 u111 u112 u113 u114 u115 u116 u117 u118 u119 u120 u121 u122 u123 u124 u125 u126 u127 u128 u129 u130 u131 u132 u133 u134 u135 u136 u137 u138 u139 u140 u141 u142 u143 u144 u145 u146 u147 u148 u149 u150 u151 u152 u153 u154 u155 u156 u157 u158 u159 u160 u161 u162 u163 u164 u165 u166 u167 u168 u169 u170 u171 u172 u173 u174 u175 u176 u177 u178 u179 u180 u181 u182 u183 u184 : Value) (w2 : World), m < n → wh_R w1 T cap id ys N c ad m u10 u11 u12 u13 u14 w2 → K ⟨#[.int .u16 cap, .slice ad N c, .int .i64 id, c3, c4, c5, u6, c7, .pointer (some ⟨T, 0, none⟩), c9, u10, u11, u12, u13, u14, u15, u16, u17, u18, u19, u20, u21, u22, c23, c24, c25, c26, c27, c28, c29, c30, c31, c32, c33, c34, c35, c36, c37, c38, c39, u40, u41, u42, u43, u44, u45, u46, u47, u48, u49, u50, u51, u52, u53, u54, u55, u56, u57, u58, u59, u60, u61, u62, u63, u64, u65, u66, u67, u68, u69, u70, u71, u72, u73, u74, u75, u76, u77, u78, u79, u80, u81, u82, u83, u84, u85, u86, u87, u88, u89, u90, u91, u92, u93, u94, u95, u96, u97, u98, u99, u100, u101, u102, u103, u104, u105, u106, u107, u108, u109, u110, u111, u112, u113, u114, u115, u116, u117, u118, u119, u120, u121, u122, u123, u124, u125, u126, u127, u128, u129, u130, u131, u132, u133, u134, u135, u136, u137, u138, u139, u140, u141, u142, u143, u144, u145, u146, u147, u148, u149, u150, u151, u152, u153, u154, u155, u156, u157, u158, u159, u160, u161, u162, u163, u164, u165, u166, u167, u168, u169, u170, u171, u172, u173, u174, u175, u176, u177, u178, u179, u180, u181, u182, u183, u184, c185], []⟩ w2))
    (hX : Hid (∀ (u6 u10 u11 u12 u13 u14 u15 u16 u17 u18 u19 u20 u21 u22 u40 u41 u42 u43 u44 u45 u46 u47 u48 u49 u50 u51 u52 u53 u54 u55 u56 u57 u58 u59 u60 u61 u62 u63 u64 u65 u66 u67 u68 u69 u70 u71 u72 u73 u74 u75 u76 u77 u78 u79 u80 u81 u82 u83 u84 u85 u86 u87 u88 u89 u90 u91 u92 u93 u94 u95 u96 u97 u98 u99 u100 u101 u102 u103 u104 u105 u106 u107 u108 u109 u110 u111 u112 u113 u114 u115 u116 u117 u118 u119 u120 u121 u122 u123 u124 u125 u126 u127 u128 u129 u130 u131 u132 u133 u134 u135 u136 u137 u138 u139 u140 u141 u142 u143 u144 u145 u146 u147 u148 u149 u150 u151 u152 u153 u154 u155 u156 u157 u158 u159 u160 u161 u162 u163 u164 u165 u166 u167 u168 u169 u170 u171 u172 u173 u174 u175 u176 u177 u178 u179 u180 u181 u182 u183 u184 : Value) (w2 : World), Below w1.heap.size w1 w2 → Q (.exit 0) ⟨#[.int .u16 cap, .slice ad N c, .int .i64 id, c3, c4, c5, u6, c7, .pointer (some ⟨T, 0, none⟩), c9, u10, u11, u12, u13, u14, u15, u16, u17, u18, u19, u20, u21, u22, c23, c24, c25, c26, c27, c28, c29, c30, c31, c32, c33, c34, c35, c36, c37, c38, c39, u40, u41, u42, u43, u44, u45, u46, u47, u48, u49, u50, u51, u52, u53, u54, u55, u56, u57, u58, u59, u60, u61, u62, u63, u64, u65, u66, u67, u68, u69, u70, u71, u72, u73, u74, u75, u76, u77, u78, u79, u80, u81, u82, u83, u84, u85, u86, u87, u88, u89, u90, u91, u92, u93, u94, u95, u96, u97, u98, u99, u100, u101, u102, u103, u104, u105, u106, u107, u108, u109, u110, u111, u112, u113, u114, u115, u116, u117, u118, u119, u120, u121, u122, u123, u124, u125, u126, u127, u128, u129, u130, u131, u132, u133, u134, u135, u136, u137, u138, u139, u140, u141, u142, u143, u144, u145, u146, u147, u148, u149, u150, u151, u152, u153, u154, u155, u156, u157, u158, u159, u160, u161, u162, u163, u164, u165, u166, u167, u168, u169, u170, u171, u172, u173, u174, u175, u176, u177, u178, u179, u180, u181, u182, u183, u184, c185], []⟩ w2)) (hkq : k + n = N) (HP : Hid (Wh20 w1 wr T B s cap id k d dv h l w)) (hlt : ¬ k < N) :
    Code.wp Try.prog wh_body (Exit.then K Q) ⟨#[.int .u16 cap, .slice ad N c, .int .i64 id, c3, c4, c5, u6, c7, .pointer (some ⟨T, 0, none⟩), c9, dv, .int .i64 h, .bool l, .int .i64 w, .int .i64 (k : Int), u15, u16, u17, u18, u19, u20, u21, u22, c23, c24, c25, c26, c27, c28, c29, c30, c31, c32, c33, c34, c35, c36, c37, c38, c39, u40, u41, u42, u43, u44, u45, u46, u47, u48, u49, u50, u51, u52, u53, u54, u55, u56, u57, u58, u59, u60, u61, u62, u63, u64, u65, u66, u67, u68, u69, u70, u71, u72, u73, u74, u75, u76, u77, u78, u79, u80, u81, u82, u83, u84, u85, u86, u87, u88, u89, u90, u91, u92, u93, u94, u95, u96, u97, u98, u99, u100, u101, u102, u103, u104, u105, u106, u107, u108, u109, u110, u111, u112, u113, u114, u115, u116, u117, u118, u119, u120, u121, u122, u123, u124, u125, u126, u127, u128, u129, u130, u131, u132, u133, u134, u135, u136, u137, u138, u139, u140, u141, u142, u143, u144, u145, u146, u147, u148, u149, u150, u151, u152, u153, u154, u155, u156, u157, u158, u159, u160, u161, u162, u163, u164, u165, u166, u167, u168, u169, u170, u171, u172, u173, u174, u175, u176, u177, u178, u179, u180, u181, u182, u183, u184, c185], []⟩ wr := by
  conv => arg 2; whnf
  have hk : k ≤ N := by omega
  obtain rfl : k = N := by omega
  clear hlt hk
  have HB := Lib.hid HP.out.b
  go_wp2_with fail
  exact hX.out _ _ _ _ _ _ _ _ _ _ _ _ _ _ _ _ _ _ _ _ _ _ _ _ _ _ _ _ _ _ _ _ _ _ _ _ _ _ _ _ _ _ _ _ _ _ _ _ _ _ _ _ _ _ _ _ _ _ _ _ _ _ _ _ _ _ _ _ _ _ _ _ _ _ _ _ _ _ _ _ _ _ _ _ _ _ _ _ _ _ _ _ _ _ _ _ _ _ _ _ _ _ _ _ _ _ _ _ _ _ _ _ _ _ _ _ _ _ _ _ _ _ _ _ _ _ _ _ _ _ _ _ _ _ _ _ _ _ _ _ _ _ _ _ _ _ _ _ _ _ _ _ _ _ _ _ _ _ _ _ HB.out
set_option maxRecDepth 1000000 in
set_option maxHeartbeats 4000000 in
theorem wh_loop (w1 : World) (T : Nat) (cap id : Int) (ys : List A20) (N c : Nat) (ad : Option Addr) (c3 c4 c5 c7 c9 c23 c24 c25 c26 c27 c28 c29 c30 c31 c32 c33 c34 c35 c36 c37 c38 c39 c185 : Value) (n₀ : Nat) (w₀ : World) (Q : Exit → Act → World → Prop) (u6 u10 u11 u12 u13 u14 u15 u16 u17 u18 u19 u20 u21 u22 u40 u41 u42 u43 u44 u45 u46 u47 u48 u49 u50 u51 u52 u53 u54 u55 u56 u57 u58 u59 u60 u61 u62 u63 u64 u65 u66 u67 u68 u69 u70 u71 u72 u73 u74 u75 u76 u77 u78 u79 u80 u81 u82 u83 u84 u85 u86 u87 u88 u89 u90 u91 u92 u93 u94 u95 u96 u97 u98 u99 u100 u101 u102 u103 u104 u105 u106 u107 u108 u109 u110 u111 u112 u113 u114 u115 u116 u117 u118 u119 u120 u121 u122 u123 u124 u125 u126 u127 u128 u129 u130 u131 u132 u133 u134 u135 u136 u137 u138 u139 u140 u141 u142 u143 u144 u145 u146 u147 u148 u149 u150 u151 u152 u153 u154 u155 u156 u157 u158 u159 u160 u161 u162 u163 u164 u165 u166 u167 u168 u169 u170 u171 u172 u173 u174 u175 u176 u177 u178 u179 u180 u181 u182 u183 u184 : Value) (h₀ : wh_R w1 T cap id ys N c ad n₀ u10 u11 u12 u13 u14 w₀)
    (hX : Hid (∀ (u6 u10 u11 u12 u13 u14 u15 u16 u17 u18 u19 u20 u21 u22 u40 u41 u42 u43 u44 u45 u46 u47 u48 u49 u50 u51 u52 u53 u54 u55 u56 u57 u58 u59 u60 u61 u62 u63 u64 u65 u66 u67 u68 u69 u70 u71 u72 u73 u74 u75 u76 u77 u78 u79 u80 u81 u82 u83 u84 u85 u86 u87 u88 u89 u90 u91 u92 u93 u94 u95 u96 u97 u98 u99 u100 u101 u102 u103 u104 u105 u106 u107 u108 u109 u110 u111 u112 u113 u114 u115 u116 u117 u118 u119 u120 u121 u122 u123 u124 u125 u126 u127 u128 u129 u130 u131 u132 u133 u134 u135 u136 u137 u138 u139 u140 u141 u142 u143 u144 u145 u146 u147 u148 u149 u150 u151 u152 u153 u154 u155 u156 u157 u158 u159 u160 u161 u162 u163 u164 u165 u166 u167 u168 u169 u170 u171 u172 u173 u174 u175 u176 u177 u178 u179 u180 u181 u182 u183 u184 : Value) (w2 : World), Below w1.heap.size w1 w2 → Q (.exit 0) ⟨#[.int .u16 cap, .slice ad N c, .int .i64 id, c3, c4, c5, u6, c7, .pointer (some ⟨T, 0, none⟩), c9, u10, u11, u12, u13, u14, u15, u16, u17, u18, u19, u20, u21, u22, c23, c24, c25, c26, c27, c28, c29, c30, c31, c32, c33, c34, c35, c36, c37, c38, c39, u40, u41, u42, u43, u44, u45, u46, u47, u48, u49, u50, u51, u52, u53, u54, u55, u56, u57, u58, u59, u60, u61, u62, u63, u64, u65, u66, u67, u68, u69, u70, u71, u72, u73, u74, u75, u76, u77, u78, u79, u80, u81, u82, u83, u84, u85, u86, u87, u88, u89, u90, u91, u92, u93, u94, u95, u96, u97, u98, u99, u100, u101, u102, u103, u104, u105, u106, u107, u108, u109, u110, u111, u112, u113, u114, u115, u116, u117, u118, u119, u120, u121, u122, u123, u124, u125, u126, u127, u128, u129, u130, u131, u132, u133, u134, u135, u136, u137, u138, u139, u140, u141, u142, u143, u144, u145, u146, u147, u148, u149, u150, u151, u152, u153, u154, u155, u156, u157, u158, u159, u160, u161, u162, u163, u164, u165, u166, u167, u168, u169, u170, u171, u172, u173, u174, u175, u176, u177, u178, u179, u180, u181, u182, u183, u184, c185], []⟩ w2)) (hQ : Hid (∀ c (a : Act) (d : Tmp) (v : Value) (w : World), Q (.panic c) (a.put (some d) v) w → Q (.panic c) a w)) (HN : Hid (ys.length = N ∧ N ≤ 100)) (HS : Hid (SlA20 w1 (.slice ad N c) ys)) (HFX : Hid (∀ x ∈ ys, x.b.1.length ≤ 300)) (hc1 : N ≤ c) (hc2 : c ≤ 2 ^ 63 - 1) (HC : Hid (0 ≤ cap ∧ cap ≤ 65535)) :
    Code.wp Try.prog (Code.loop wh_body) Q ⟨#[.int .u16 cap, .slice ad N c, .int .i64 id, c3, c4, c5, u6, c7, .pointer (some ⟨T, 0, none⟩), c9, u10, u11, u12, u13, u14, u15, u16, u17, u18, u19, u20, u21, u22, c23, c24, c25, c26, c27, c28, c29, c30, c31, c32, c33, c34, c35, c36, c37, c38, c39, u40, u41, u42, u43, u44, u45, u46, u47, u48, u49, u50, u51, u52, u53, u54, u55, u56, u57, u58, u59, u60, u61, u62, u63, u64, u65, u66, u67, u68, u69, u70, u71, u72, u73, u74, u75, u76, u77, u78, u79, u80, u81, u82, u83, u84, u85, u86, u87, u88, u89, u90, u91, u92, u93, u94, u95, u96, u97, u98, u99, u100, u101, u102, u103, u104, u105, u106, u107, u108, u109, u110, u111, u112, u113, u114, u115, u116, u117, u118, u119, u120, u121, u122, u123, u124, u125, u126, u127, u128, u129, u130, u131, u132, u133, u134, u135, u136, u137, u138, u139, u140, u141, u142, u143, u144, u145, u146, u147, u148, u149, u150, u151, u152, u153, u154, u155, u156, u157, u158, u159, u160, u161, u162, u163, u164, u165, u166, u167, u168, u169, u170, u171, u172, u173, u174, u175, u176, u177, u178, u179, u180, u181, u182, u183, u184, c185], []⟩ w₀ := by
  refine wp_loop_ghost (fun n a w => wh_I w1 T cap id ys N c ad c3 c4 c5 c7 c9 c23 c24 c25 c26 c27 c28 c29 c30 c31 c32 c33 c34 c35 c36 c37 c38 c39 c185 n a w) n₀ ?_ ?_
  · unfold wh_I
    exact ⟨u6, u10, u11, u12, u13, u14, u15, u16, u17, u18, u19, u20, u21, u22, u40, u41, u42, u43, u44, u45, u46, u47, u48, u49, u50, u51, u52, u53, u54, u55, u56, u57, u58, u59, u60, u61, u62, u63, u64, u65, u66, u67, u68, u69, u70, u71, u72, u73, u74, u75, u76, u77, u78, u79, u80, u81, u82, u83, u84, u85, u86, u87, u88, u89, u90, u91, u92, u93, u94, u95, u96, u97, u98, u99, u100, u101, u102, u103, u104, u105, u106, u107, u108, u109, u110, u111, u112, u113, u114, u115, u116, u117, u118, u119, u120, u121, u122, u123, u124, u125, u126, u127, u128, u129, u130, u131, u132, u133, u134, u135, u136, u137, u138, u139, u140, u141, u142, u143, u144, u145, u146, u147, u148, u149, u150, u151, u152, u153, u154, u155, u156, u157, u158, u159, u160, u161, u162, u163, u164, u165, u166, u167, u168, u169, u170, u171, u172, u173, u174, u175, u176, u177, u178, u179, u180, u181, u182, u183, u184, h₀, rfl⟩
  intro n a wr hI
  clear h₀
  unfold wh_I at hI
  obtain ⟨u6, hI⟩ := hI
  obtain ⟨u10, hI⟩ := hI
  obtain ⟨u11, hI⟩ := hI
  obtain ⟨u12, hI⟩ := hI
  obtain ⟨u13, hI⟩ := hI
  obtain ⟨u14, hI⟩ := hI
  obtain ⟨u15, hI⟩ := hI
  obtain ⟨u16, hI⟩ := hI
  obtain ⟨u17, hI⟩ := hI
  obtain ⟨u18, hI⟩ := hI
  obtain ⟨u19, hI⟩ := hI
  obtain ⟨u20, hI⟩ := hI
  obtain ⟨u21, hI⟩ := hI
  obtain ⟨u22, hI⟩ := hI
  obtain ⟨u40, hI⟩ := hI
  obtain ⟨u41, hI⟩ := hI
  obtain ⟨u42, hI⟩ := hI
  obtain ⟨u43, hI⟩ := hI
  obtain ⟨u44, hI⟩ := hI
  obtain ⟨u45, hI⟩ := hI
  obtain ⟨u46, hI⟩ := hI
  obtain ⟨u47, hI⟩ := hI
  obtain ⟨u48, hI⟩ := hI
  obtain ⟨u49, hI⟩ := hI
  obtain ⟨u50, hI⟩ := hI
  obtain ⟨u51, hI⟩ := hI
  obtain ⟨u52, hI⟩ := hI
  obtain ⟨u53, hI⟩ := hI
  obtain ⟨u54, hI⟩ := hI
  obtain ⟨u55, hI⟩ := hI
  obtain ⟨u56, hI⟩ := hI
  obtain ⟨u57, hI⟩ := hI
  obtain ⟨u58, hI⟩ := hI
  obtain ⟨u59, hI⟩ := hI
  obtain ⟨u60, hI⟩ := hI
  obtain ⟨u61, hI⟩ := hI
  obtain ⟨u62, hI⟩ := hI
  obtain ⟨u63, hI⟩ := hI
  obtain ⟨u64, hI⟩ := hI
  obtain ⟨u65, hI⟩ := hI
  obtain ⟨u66, hI⟩ := hI
  obtain ⟨u67, hI⟩ := hI
  obtain ⟨u68, hI⟩ := hI
  obtain ⟨u69, hI⟩ := hI
  obtain ⟨u70, hI⟩ := hI
  obtain ⟨u71, hI⟩ := hI
  obtain ⟨u72, hI⟩ := hI
  obtain ⟨u73, hI⟩ := hI
  obtain ⟨u74, hI⟩ := hI
  obtain ⟨u75, hI⟩ := hI
  obtain ⟨u76, hI⟩ := hI
  obtain ⟨u77, hI⟩ := hI
  obtain ⟨u78, hI⟩ := hI
  obtain ⟨u79, hI⟩ := hI
  obtain ⟨u80, hI⟩ := hI
  obtain ⟨u81, hI⟩ := hI
  obtain ⟨u82, hI⟩ := hI
  obtain ⟨u83, hI⟩ := hI
  obtain ⟨u84, hI⟩ := hI
  obtain ⟨u85, hI⟩ := hI
  obtain ⟨u86, hI⟩ := hI
  obtain ⟨u87, hI⟩ := hI
  obtain ⟨u88, hI⟩ := hI
  obtain ⟨u89, hI⟩ := hI
  obtain ⟨u90, hI⟩ := hI
  obtain ⟨u91, hI⟩ := hI
  obtain ⟨u92, hI⟩ := hI
  obtain ⟨u93, hI⟩ := hI
  obtain ⟨u94, hI⟩ := hI
  obtain ⟨u95, hI⟩ := hI
  obtain ⟨u96, hI⟩ := hI
  obtain ⟨u97, hI⟩ := hI
  obtain ⟨u98, hI⟩ := hI
  obtain ⟨u99, hI⟩ := hI
  obtain ⟨u100, hI⟩ := hI
  obtain ⟨u101, hI⟩ := hI
  obtain ⟨u102, hI⟩ := hI
  obtain ⟨u103, hI⟩ := hI
  obtain ⟨u104, hI⟩ := hI
  obtain ⟨u105, hI⟩ := hI
  obtain ⟨u106, hI⟩ := hI
  obtain ⟨u107, hI⟩ := hI
  obtain ⟨u108, hI⟩ := hI
  obtain ⟨u109, hI⟩ := hI
  obtain ⟨u110, hI⟩ := hI
  obtain ⟨u111, hI⟩ := hI
  obtain ⟨u112, hI⟩ := hI
  obtain ⟨u113, hI⟩ := hI
  obtain ⟨u114, hI⟩ := hI
  obtain ⟨u115, hI⟩ := hI
  obtain ⟨u116, hI⟩ := hI
  obtain ⟨u117, hI⟩ := hI
  obtain ⟨u118, hI⟩ := hI
  obtain ⟨u119, hI⟩ := hI
  obtain ⟨u120, hI⟩ := hI
  obtain ⟨u121, hI⟩ := hI
  obtain ⟨u122, hI⟩ := hI
  obtain ⟨u123, hI⟩ := hI
  obtain ⟨u124, hI⟩ := hI
  obtain ⟨u125, hI⟩ := hI
  obtain ⟨u126, hI⟩ := hI
  obtain ⟨u127, hI⟩ := hI
  obtain ⟨u128, hI⟩ := hI
  obtain ⟨u129, hI⟩ := hI
  obtain ⟨u130, hI⟩ := hI
  obtain ⟨u131, hI⟩ := hI
  obtain ⟨u132, hI⟩ := hI
  obtain ⟨u133, hI⟩ := hI
  obtain ⟨u134, hI⟩ := hI
  obtain ⟨u135, hI⟩ := hI
  obtain ⟨u136, hI⟩ := hI
  obtain ⟨u137, hI⟩ := hI
  obtain ⟨u138, hI⟩ := hI
  obtain ⟨u139, hI⟩ := hI
  obtain ⟨u140, hI⟩ := hI
  obtain ⟨u141, hI⟩ := hI
  obtain ⟨u142, hI⟩ := hI
  obtain ⟨u143, hI⟩ := hI
  obtain ⟨u144, hI⟩ := hI
  obtain ⟨u145, hI⟩ := hI
  obtain ⟨u146, hI⟩ := hI
  obtain ⟨u147, hI⟩ := hI
  obtain ⟨u148, hI⟩ := hI
  obtain ⟨u149, hI⟩ := hI
  obtain ⟨u150, hI⟩ := hI
  obtain ⟨u151, hI⟩ := hI
  obtain ⟨u152, hI⟩ := hI
  obtain ⟨u153, hI⟩ := hI
  obtain ⟨u154, hI⟩ := hI
  obtain ⟨u155, hI⟩ := hI
  obtain ⟨u156, hI⟩ := hI
  obtain ⟨u157, hI⟩ := hI
  obtain ⟨u158, hI⟩ := hI
  obtain ⟨u159, hI⟩ := hI
  obtain ⟨u160, hI⟩ := hI
  obtain ⟨u161, hI⟩ := hI
  obtain ⟨u162, hI⟩ := hI
  obtain ⟨u163, hI⟩ := hI
  obtain ⟨u164, hI⟩ := hI
  obtain ⟨u165, hI⟩ := hI
  obtain ⟨u166, hI⟩ := hI
  obtain ⟨u167, hI⟩ := hI
  obtain ⟨u168, hI⟩ := hI
  obtain ⟨u169, hI⟩ := hI
  obtain ⟨u170, hI⟩ := hI
  obtain ⟨u171, hI⟩ := hI
  obtain ⟨u172, hI⟩ := hI
  obtain ⟨u173, hI⟩ := hI
  obtain ⟨u174, hI⟩ := hI
  obtain ⟨u175, hI⟩ := hI
  obtain ⟨u176, hI⟩ := hI
  obtain ⟨u177, hI⟩ := hI
  obtain ⟨u178, hI⟩ := hI
  obtain ⟨u179, hI⟩ := hI
  obtain ⟨u180, hI⟩ := hI
  obtain ⟨u181, hI⟩ := hI
  obtain ⟨u182, hI⟩ := hI
  obtain ⟨u183, hI⟩ := hI
  obtain ⟨u184, hI⟩ := hI
  obtain ⟨hrel, rfl⟩ := hI
  have hK : Hid (∀ (m : Nat) (u6 u10 u11 u12 u13 u14 u15 u16 u17 u18 u19 u20 u21 u22 u40 u41 u42 u43 u44 u45 u46 u47 u48 u49 u50 u51 u52 u53 u54 u55 u56 u57 u58 u59 u60 u61 u62 u63 u64 u65 u66 u67 u68 u69 u70 u71 u72 u73 u74 u75 u76 u77 u78 u79 u80 u81 u82 u83 u84 u85 u86 u87 u88 u89 u90 u91 u92 u93 u94 u95 u96 u97 u98 u99 u100 u101 u102 u103 u104 u105 u106 u107 u108 u109 u110 u111 u112 u113 u114 u115 u116 u117 u118 u119 u120 u121 u122 u123 u124 u125 u126 u127 u128 u129 u130 u131 u132 u133 u134 u135 u136 u137 u138 u139 u140 u141 u142 u143 u144 u145 u146 u147 u148 u149 u150 u151 u152 u153 u154 u155 u156 u157 u158 u159 u160 u161 u162 u163 u164 u165 u166 u167 u168 u169 u170 u171 u172 u173 u174 u175 u176 u177 u178 u179 u180 u181 u182 u183 u184 : Value) (w2 : World), m < n → wh_R w1 T cap id ys N c ad m u10 u11 u12 u13 u14 w2 → (fun a' w' => ∃ n', n' < n ∧ wh_I w1 T cap id ys N c ad c3 c4 c5 c7 c9 c23 c24 c25 c26 c27 c28 c29 c30 c31 c32 c33 c34 c35 c36 c37 c38 c39 c185 n' a' w') ⟨#[.int .u16 cap, .slice ad N c, .int .i64 id, c3, c4, c5, u6, c7, .pointer (some ⟨T, 0, none⟩), c9, u10, u11, u12, u13, u14, u15, u16, u17, u18, u19, u20, u21, u22, c23, c24, c25, c26, c27, c28, c29, c30, c31, c32, c33, c34, c35, c36, c37, c38, c39, u40, u41, u42, u43, u44, u45, u46, u47, u48, u49, u50, u51, u52, u53, u54, u55, u56, u57, u58, u59, u60, u61, u62, u63, u64, u65, u66, u67, u68, u69, u70, u71, u72, u73, u74, u75, u76, u77, u78, u79, u80, u81, u82, u83, u84, u85, u86, u87, u88, u89, u90, u91, u92, u93, u94, u95, u96, u97, u98, u99, u100, u101, u102, u103, u104, u105, u106, u107, u108, u109, u110, u111, u112, u113, u114, u115, u116, u117, u118, u119, u120, u121, u122, u123, u124, u125, u126, u127, u128, u129, u130, u131, u132, u133, u134, u135, u136, u137, u138, u139, u140, u141, u142, u143, u144, u145, u146, u147, u148, u149, u150, u151, u152, u153, u154, u155, u156, u157, u158, u159, u160, u161, u162, u163, u164, u165, u166, u167, u168, u169, u170, u171, u172, u173, u174, u175, u176, u177, u178, u179, u180, u181, u182, u183, u184, c185], []⟩ w2) := Lib.hid (by
    intro m u6 u10 u11 u12 u13 u14 u15 u16 u17 u18 u19 u20 u21 u22 u40 u41 u42 u43 u44 u45 u46 u47 u48 u49 u50 u51 u52 u53 u54 u55 u56 u57 u58 u59 u60 u61 u62 u63 u64 u65 u66 u67 u68 u69 u70 u71 u72 u73 u74 u75 u76 u77 u78 u79 u80 u81 u82 u83 u84 u85 u86 u87 u88 u89 u90 u91 u92 u93 u94 u95 u96 u97 u98 u99 u100 u101 u102 u103 u104 u105 u106 u107 u108 u109 u110 u111 u112 u113 u114 u115 u116 u117 u118 u119 u120 u121 u122 u123 u124 u125 u126 u127 u128 u129 u130 u131 u132 u133 u134 u135 u136 u137 u138 u139 u140 u141 u142 u143 u144 u145 u146 u147 u148 u149 u150 u151 u152 u153 u154 u155 u156 u157 u158 u159 u160 u161 u162 u163 u164 u165 u166 u167 u168 u169 u170 u171 u172 u173 u174 u175 u176 u177 u178 u179 u180 u181 u182 u183 u184 w2 hm hr
    refine ⟨m, hm, ?_⟩
    unfold wh_I
    exact ⟨u6, u10, u11, u12, u13, u14, u15, u16, u17, u18, u19, u20, u21, u22, u40, u41, u42, u43, u44, u45, u46, u47, u48, u49, u50, u51, u52, u53, u54, u55, u56, u57, u58, u59, u60, u61, u62, u63, u64, u65, u66, u67, u68, u69, u70, u71, u72, u73, u74, u75, u76, u77, u78, u79, u80, u81, u82, u83, u84, u85, u86, u87, u88, u89, u90, u91, u92, u93, u94, u95, u96, u97, u98, u99, u100, u101, u102, u103, u104, u105, u106, u107, u108, u109, u110, u111, u112, u113, u114, u115, u116, u117, u118, u119, u120, u121, u122, u123, u124, u125, u126, u127, u128, u129, u130, u131, u132, u133, u134, u135, u136, u137, u138, u139, u140, u141, u142, u143, u144, u145, u146, u147, u148, u149, u150, u151, u152, u153, u154, u155, u156, u157, u158, u159, u160, u161, u162, u163, u164, u165, u166, u167, u168, u169, u170, u171, u172, u173, u174, u175, u176, u177, u178, u179, u180, u181, u182, u183, u184, hr, rfl⟩)
  unfold wh_R at hrel
  obtain ⟨k, hkq, rfl, h, l, w, rfl, rfl, rfl, HP'⟩ := hrel
  obtain ⟨s, B, d, hP⟩ := HP'.out
  have HP := Lib.hid hP
  clear HP' hP
  by_cases hlt : k < N
  · obtain ⟨x, hx⟩ : ∃ x, ys[k]? = some x := ⟨ys[k]'(by rw [HN.out.1]; exact hlt), List.getElem?_eq_getElem (by rw [HN.out.1]; exact hlt)⟩
    have hx0 := (HS.out.2 x (List.mem_of_getElem? hx)).k0
    have hkd : ∀ j, x.k % 10 = j → ∀ y : A20, ys[k]? = some y → y.k % 10 = j := fun j h1 y hy => by
      rw [hx] at hy
      rw [← Option.some.inj hy]
      exact h1
    rcases (show x.k % 10 = 0 ∨ x.k % 10 = 1 ∨ x.k % 10 = 2 ∨ x.k % 10 = 3 ∨ x.k % 10 = 4 ∨ x.k % 10 = 5 ∨ x.k % 10 = 6 ∨ x.k % 10 = 7 ∨ x.k % 10 = 8 ∨ x.k % 10 = 9 by omega) with h0 | h0 | h0 | h0 | h0 | h0 | h0 | h0 | h0 | h0
    · exact wh_k0 w1 T cap id ys N c ad c3 c4 c5 c7 c9 c23 c24 c25 c26 c27 c28 c29 c30 c31 c32 c33 c34 c35 c36 c37 c38 c39 c185 n wr _ Q k s B d u10 h w l u6 u15 u16 u17 u18 u19 u20 u21 u22 u40 u41 u42 u43 u44 u45 u46 u47 u48 u49 u50 u51 u52 u53 u54 u55 u56 u57 u58 u59 u60 u61 u62 u63 u64 u65 u66 u67 u68 u69 u70 u71 u72 u73 u74 u75 u76 u77 u78 u79 u80 u81 u82 u83 u84 u85 u86 u87 u88 u89 u90 u91 u92 u93 u94 u95 u96 u97 u98 u99 u100 u101 u102 u103 u104 u105 u106 u107 u108 u109 u110 u111 u112 u113 u114 u115 u116 u117 u118 u119 u120 u121 u122 u123 u124 u125 u126 u127 u128 u129 u130 u131 u132 u133 u134 u135 u136 u137 u138 u139 u140 u141 u142 u143 u144 u145 u146 u147 u148 u149 u150 u151 u152 u153 u154 u155 u156 u157 u158 u159 u160 u161 u162 u163 u164 u165 u166 u167 u168 u169 u170 u171 u172 u173 u174 u175 u176 u177 u178 u179 u180 u181 u182 u183 u184 hK  HN HS HFX hc1 hc2 HC hkq HP hlt (hkd _ h0)
    · exact wh_k1 w1 T cap id ys N c ad c3 c4 c5 c7 c9 c23 c24 c25 c26 c27 c28 c29 c30 c31 c32 c33 c34 c35 c36 c37 c38 c39 c185 n wr _ Q k s B d u10 h w l u6 u15 u16 u17 u18 u19 u20 u21 u22 u40 u41 u42 u43 u44 u45 u46 u47 u48 u49 u50 u51 u52 u53 u54 u55 u56 u57 u58 u59 u60 u61 u62 u63 u64 u65 u66 u67 u68 u69 u70 u71 u72 u73 u74 u75 u76 u77 u78 u79 u80 u81 u82 u83 u84 u85 u86 u87 u88 u89 u90 u91 u92 u93 u94 u95 u96 u97 u98 u99 u100 u101 u102 u103 u104 u105 u106 u107 u108 u109 u110 u111 u112 u113 u114 u115 u116 u117 u118 u119 u120 u121 u122 u123 u124 u125 u126 u127 u128 u129 u130 u131 u132 u133 u134 u135 u136 u137 u138 u139 u140 u141 u142 u143 u144 u145 u146 u147 u148 u149 u150 u151 u152 u153 u154 u155 u156 u157 u158 u159 u160 u161 u162 u163 u164 u165 u166 u167 u168 u169 u170 u171 u172 u173 u174 u175 u176 u177 u178 u179 u180 u181 u182 u183 u184 hK  HN HS HFX hc1 hc2 HC hkq HP hlt (hkd _ h0)
    · exact wh_k2 w1 T cap id ys N c ad c3 c4 c5 c7 c9 c23 c24 c25 c26 c27 c28 c29 c30 c31 c32 c33 c34 c35 c36 c37 c38 c39 c185 n wr _ Q k s B d u10 h w l u6 u15 u16 u17 u18 u19 u20 u21 u22 u40 u41 u42 u43 u44 u45 u46 u47 u48 u49 u50 u51 u52 u53 u54 u55 u56 u57 u58 u59 u60 u61 u62 u63 u64 u65 u66 u67 u68 u69 u70 u71 u72 u73 u74 u75 u76 u77 u78 u79 u80 u81 u82 u83 u84 u85 u86 u87 u88 u89 u90 u91 u92 u93 u94 u95 u96 u97 u98 u99 u100 u101 u102 u103 u104 u105 u106 u107 u108 u109 u110 u111 u112 u113 u114 u115 u116 u117 u118 u119 u120 u121 u122 u123 u124 u125 u126 u127 u128 u129 u130 u131 u132 u133 u134 u135 u136 u137 u138 u139 u140 u141 u142 u143 u144 u145 u146 u147 u148 u149 u150 u151 u152 u153 u154 u155 u156 u157 u158 u159 u160 u161 u162 u163 u164 u165 u166 u167 u168 u169 u170 u171 u172 u173 u174 u175 u176 u177 u178 u179 u180 u181 u182 u183 u184 hK  hQ HN HS HFX hc1 hc2 HC hkq HP hlt (hkd _ h0)
    · exact wh_k3 w1 T cap id ys N c ad c3 c4 c5 c7 c9 c23 c24 c25 c26 c27 c28 c29 c30 c31 c32 c33 c34 c35 c36 c37 c38 c39 c185 n wr _ Q k s B d u10 h w l u6 u15 u16 u17 u18 u19 u20 u21 u22 u40 u41 u42 u43 u44 u45 u46 u47 u48 u49 u50 u51 u52 u53 u54 u55 u56 u57 u58 u59 u60 u61 u62 u63 u64 u65 u66 u67 u68 u69 u70 u71 u72 u73 u74 u75 u76 u77 u78 u79 u80 u81 u82 u83 u84 u85 u86 u87 u88 u89 u90 u91 u92 u93 u94 u95 u96 u97 u98 u99 u100 u101 u102 u103 u104 u105 u106 u107 u108 u109 u110 u111 u112 u113 u114 u115 u116 u117 u118 u119 u120 u121 u122 u123 u124 u125 u126 u127 u128 u129 u130 u131 u132 u133 u134 u135 u136 u137 u138 u139 u140 u141 u142 u143 u144 u145 u146 u147 u148 u149 u150 u151 u152 u153 u154 u155 u156 u157 u158 u159 u160 u161 u162 u163 u164 u165 u166 u167 u168 u169 u170 u171 u172 u173 u174 u175 u176 u177 u178 u179 u180 u181 u182 u183 u184 hK  hQ HN HS HFX hc1 hc2 HC hkq HP hlt (hkd _ h0)
    · exact wh_k4 w1 T cap id ys N c ad c3 c4 c5 c7 c9 c23 c24 c25 c26 c27 c28 c29 c30 c31 c32 c33 c34 c35 c36 c37 c38 c39 c185 n wr _ Q k s B d u10 h w l u6 u15 u16 u17 u18 u19 u20 u21 u22 u40 u41 u42 u43 u44 u45 u46 u47 u48 u49 u50 u51 u52 u53 u54 u55 u56 u57 u58 u59 u60 u61 u62 u63 u64 u65 u66 u67 u68 u69 u70 u71 u72 u73 u74 u75 u76 u77 u78 u79 u80 u81 u82 u83 u84 u85 u86 u87 u88 u89 u90 u91 u92 u93 u94 u95 u96 u97 u98 u99 u100 u101 u102 u103 u104 u105 u106 u107 u108 u109 u110 u111 u112 u113 u114 u115 u116 u117 u118 u119 u120 u121 u122 u123 u124 u125 u126 u127 u128 u129 u130 u131 u132 u133 u134 u135 u136 u137 u138 u139 u140 u141 u142 u143 u144 u145 u146 u147 u148 u149 u150 u151 u152 u153 u154 u155 u156 u157 u158 u159 u160 u161 u162 u163 u164 u165 u166 u167 u168 u169 u170 u171 u172 u173 u174 u175 u176 u177 u178 u179 u180 u181 u182 u183 u184 hK  HN HS HFX hc1 hc2 HC hkq HP hlt (hkd _ h0)
    · exact wh_k5 w1 T cap id ys N c ad c3 c4 c5 c7 c9 c23 c24 c25 c26 c27 c28 c29 c30 c31 c32 c33 c34 c35 c36 c37 c38 c39 c185 n wr _ Q k s B d u10 h w l u6 u15 u16 u17 u18 u19 u20 u21 u22 u40 u41 u42 u43 u44 u45 u46 u47 u48 u49 u50 u51 u52 u53 u54 u55 u56 u57 u58 u59 u60 u61 u62 u63 u64 u65 u66 u67 u68 u69 u70 u71 u72 u73 u74 u75 u76 u77 u78 u79 u80 u81 u82 u83 u84 u85 u86 u87 u88 u89 u90 u91 u92 u93 u94 u95 u96 u97 u98 u99 u100 u101 u102 u103 u104 u105 u106 u107 u108 u109 u110 u111 u112 u113 u114 u115 u116 u117 u118 u119 u120 u121 u122 u123 u124 u125 u126 u127 u128 u129 u130 u131 u132 u133 u134 u135 u136 u137 u138 u139 u140 u141 u142 u143 u144 u145 u146 u147 u148 u149 u150 u151 u152 u153 u154 u155 u156 u157 u158 u159 u160 u161 u162 u163 u164 u165 u166 u167 u168 u169 u170 u171 u172 u173 u174 u175 u176 u177 u178 u179 u180 u181 u182 u183 u184 hK  HN HS HFX hc1 hc2 HC hkq HP hlt (hkd _ h0)
    · exact wh_k6 w1 T cap id ys N c ad c3 c4 c5 c7 c9 c23 c24 c25 c26 c27 c28 c29 c30 c31 c32 c33 c34 c35 c36 c37 c38 c39 c185 n wr _ Q k s B d u10 h w l u6 u15 u16 u17 u18 u19 u20 u21 u22 u40 u41 u42 u43 u44 u45 u46 u47 u48 u49 u50 u51 u52 u53 u54 u55 u56 u57 u58 u59 u60 u61 u62 u63 u64 u65 u66 u67 u68 u69 u70 u71 u72 u73 u74 u75 u76 u77 u78 u79 u80 u81 u82 u83 u84 u85 u86 u87 u88 u89 u90 u91 u92 u93 u94 u95 u96 u97 u98 u99 u100 u101 u102 u103 u104 u105 u106 u107 u108 u109 u110 u111 u112 u113 u114 u115 u116 u117 u118 u119 u120 u121 u122 u123 u124 u125 u126 u127 u128 u129 u130 u131 u132 u133 u134 u135 u136 u137 u138 u139 u140 u141 u142 u143 u144 u145 u146 u147 u148 u149 u150 u151 u152 u153 u154 u155 u156 u157 u158 u159 u160 u161 u162 u163 u164 u165 u166 u167 u168 u169 u170 u171 u172 u173 u174 u175 u176 u177 u178 u179 u180 u181 u182 u183 u184 hK  HN HS HFX hc1 hc2 HC hkq HP hlt (hkd _ h0)
    · exact wh_k7 w1 T cap id ys N c ad c3 c4 c5 c7 c9 c23 c24 c25 c26 c27 c28 c29 c30 c31 c32 c33 c34 c35 c36 c37 c38 c39 c185 n wr _ Q k s B d u10 h w l u6 u15 u16 u17 u18 u19 u20 u21 u22 u40 u41 u42 u43 u44 u45 u46 u47 u48 u49 u50 u51 u52 u53 u54 u55 u56 u57 u58 u59 u60 u61 u62 u63 u64 u65 u66 u67 u68 u69 u70 u71 u72 u73 u74 u75 u76 u77 u78 u79 u80 u81 u82 u83 u84 u85 u86 u87 u88 u89 u90 u91 u92 u93 u94 u95 u96 u97 u98 u99 u100 u101 u102 u103 u104 u105 u106 u107 u108 u109 u110 u111 u112 u113 u114 u115 u116 u117 u118 u119 u120 u121 u122 u123 u124 u125 u126 u127 u128 u129 u130 u131 u132 u133 u134 u135 u136 u137 u138 u139 u140 u141 u142 u143 u144 u145 u146 u147 u148 u149 u150 u151 u152 u153 u154 u155 u156 u157 u158 u159 u160 u161 u162 u163 u164 u165 u166 u167 u168 u169 u170 u171 u172 u173 u174 u175 u176 u177 u178 u179 u180 u181 u182 u183 u184 hK  HN HS HFX hc1 hc2 HC hkq HP hlt (hkd _ h0)
    · exact wh_k8 w1 T cap id ys N c ad c3 c4 c5 c7 c9 c23 c24 c25 c26 c27 c28 c29 c30 c31 c32 c33 c34 c35 c36 c37 c38 c39 c185 n wr _ Q k s B d u10 h w l u6 u15 u16 u17 u18 u19 u20 u21 u22 u40 u41 u42 u43 u44 u45 u46 u47 u48 u49 u50 u51 u52 u53 u54 u55 u56 u57 u58 u59 u60 u61 u62 u63 u64 u65 u66 u67 u68 u69 u70 u71 u72 u73 u74 u75 u76 u77 u78 u79 u80 u81 u82 u83 u84 u85 u86 u87 u88 u89 u90 u91 u92 u93 u94 u95 u96 u97 u98 u99 u100 u101 u102 u103 u104 u105 u106 u107 u108 u109 u110 u111 u112 u113 u114 u115 u116 u117 u118 u119 u120 u121 u122 u123 u124 u125 u126 u127 u128 u129 u130 u131 u132 u133 u134 u135 u136 u137 u138 u139 u140 u141 u142 u143 u144 u145 u146 u147 u148 u149 u150 u151 u152 u153 u154 u155 u156 u157 u158 u159 u160 u161 u162 u163 u164 u165 u166 u167 u168 u169 u170 u171 u172 u173 u174 u175 u176 u177 u178 u179 u180 u181 u182 u183 u184 hK  HN HS HFX hc1 hc2 HC hkq HP hlt (hkd _ h0)
    · exact wh_k9 w1 T cap id ys N c ad c3 c4 c5 c7 c9 c23 c24 c25 c26 c27 c28 c29 c30 c31 c32 c33 c34 c35 c36 c37 c38 c39 c185 n wr _ Q k s B d u10 h w l u6 u15 u16 u17 u18 u19 u20 u21 u22 u40 u41 u42 u43 u44 u45 u46 u47 u48 u49 u50 u51 u52 u53 u54 u55 u56 u57 u58 u59 u60 u61 u62 u63 u64 u65 u66 u67 u68 u69 u70 u71 u72 u73 u74 u75 u76 u77 u78 u79 u80 u81 u82 u83 u84 u85 u86 u87 u88 u89 u90 u91 u92 u93 u94 u95 u96 u97 u98 u99 u100 u101 u102 u103 u104 u105 u106 u107 u108 u109 u110 u111 u112 u113 u114 u115 u116 u117 u118 u119 u120 u121 u122 u123 u124 u125 u126 u127 u128 u129 u130 u131 u132 u133 u134 u135 u136 u137 u138 u139 u140 u141 u142 u143 u144 u145 u146 u147 u148 u149 u150 u151 u152 u153 u154 u155 u156 u157 u158 u159 u160 u161 u162 u163 u164 u165 u166 u167 u168 u169 u170 u171 u172 u173 u174 u175 u176 u177 u178 u179 u180 u181 u182 u183 u184 hK  HN HS HFX hc1 hc2 HC hkq HP hlt (hkd _ h0)
  · exact wh_end w1 T cap id ys N c ad c3 c4 c5 c7 c9 c23 c24 c25 c26 c27 c28 c29 c30 c31 c32 c33 c34 c35 c36 c37 c38 c39 c185 n wr _ Q k s B d u10 h w l u6 u15 u16 u17 u18 u19 u20 u21 u22 u40 u41 u42 u43 u44 u45 u46 u47 u48 u49 u50 u51 u52 u53 u54 u55 u56 u57 u58 u59 u60 u61 u62 u63 u64 u65 u66 u67 u68 u69 u70 u71 u72 u73 u74 u75 u76 u77 u78 u79 u80 u81 u82 u83 u84 u85 u86 u87 u88 u89 u90 u91 u92 u93 u94 u95 u96 u97 u98 u99 u100 u101 u102 u103 u104 u105 u106 u107 u108 u109 u110 u111 u112 u113 u114 u115 u116 u117 u118 u119 u120 u121 u122 u123 u124 u125 u126 u127 u128 u129 u130 u131 u132 u133 u134 u135 u136 u137 u138 u139 u140 u141 u142 u143 u144 u145 u146 u147 u148 u149 u150 u151 u152 u153 u154 u155 u156 u157 u158 u159 u160 u161 u162 u163 u164 u165 u166 u167 u168 u169 u170 u171 u172 u173 u174 u175 u176 u177 u178 u179 u180 u181 u182 u183 u184 hK  hX hkq HP hlt
set_option maxHeartbeats 8000000 in
theorem whole20_any (cap : Int) (v : Value) (ys : List A20) (id : Int) (w1 : World) (hc : 0 ≤ cap ∧ cap ≤ 65535) (hi : (Lit.int .i64 id).wf = true) (h : SlA20 w1 v ys) :
    Calls Try.prog 4 #[.int .u16 cap, v, .int .i64 id] w1 fun e w' => e = .returned (.bool true) ∧ Below w1.heap.size w1 w' := by
  obtain ⟨a, c, rfl, hc1, hc2⟩ := h.1.shape
  unfold maxLen at hc2
  have HC := Lib.hid hc
  have HI := Lib.hid hi
  obtain ⟨hcl, hch⟩ := hc
  clear hi
  go_enter Try.func4, Try.ntmps4
  go_wp2_with fail
  refine (fits20_any _ ys _ h).mono ?_
  rintro e w0 ⟨rfl, e0⟩
  have e1 := e0.symm
  clear e0
  subst e1
  cases hft : fits20 ys
  · go_wp2_with fail
    refine (alive20 _).mono ?_
    rintro e w2 ⟨rfl, hb2⟩
    have HB2 := Lib.hid hb2
    clear hb2
    go_wp2_with fail
    go_ret
    exact ⟨rfl, HB2.out⟩
  obtain ⟨hy30, hyx⟩ := fits20_yes hft
  have HFX := Lib.hid hyx
  obtain ⟨N, hN⟩ : ∃ N, ys.length = N := ⟨_, rfl⟩
  rw [hN] at h hc1 hy30 ⊢
  have HN := Lib.hid (And.intro hN hy30)
  have HS := Lib.hid h
  have hwc : IntKind.i64.wrap cap = cap := wrap_i64_small (by omega) (by omega)
  clear hN h hft hyx
  go_wp2_with fail
  refine (pNew20_yes cap w1 ⟨HC.out.1, by have := HC.out.2; omega⟩).mono ?_
  rintro e w2 ⟨T, B0, rfl, h1, h2, hb2⟩
  have HP0 := Lib.hid (show Wh20 w1 w2 T B0 ⟨cap, []⟩ cap id 0 [] (.slice none 0 0) 0 false 0 from ⟨h1, hb2, h2, Sl.nil _ _, fun h => absurd rfl h, J20.new cap id HC.out.1, Nat.le_refl _, by decide⟩)
  clear h1 h2 hb2
  go_wp2_with fail
  refine wh_loop w1 T cap id ys N c a _ _ _ _ _ _ _ _ _ _ _ _ _ _ _ _ _ _ _ _ _ _ _ N _ _ _ _ _ _ _ _ _ _ _ _ _ _ _ _ _ _ _ _ _ _ _ _ _ _ _ _ _ _ _ _ _ _ _ _ _ _ _ _ _ _ _ _ _ _ _ _ _ _ _ _ _ _ _ _ _ _ _ _ _ _ _ _ _ _ _ _ _ _ _ _ _ _ _ _ _ _ _ _ _ _ _ _ _ _ _ _ _ _ _ _ _ _ _ _ _ _ _ _ _ _ _ _ _ _ _ _ _ _ _ _ _ _ _ _ _ _ _ _ _ _ _ _ _ _ _ _ _ _ _ _ _ _ _ _ _ _ _ _ _ _ _ _ _ _ _ _ _ _ _ _ _ _ _ _ _ _ _ _ _ ?_ ?_ (Lib.hid (fun _ _ _ _ _ h => h)) HN HS HFX hc1 hc2 HC
  · exact ⟨0, by omega, rfl, _, _, _, rfl, rfl, rfl, Lib.hid ⟨_, _, _, HP0.out⟩⟩
  · refine Lib.hid ?_
    intro u6 u10 u11 u12 u13 u14 u15 u16 u17 u18 u19 u20 u21 u22 u40 u41 u42 u43 u44 u45 u46 u47 u48 u49 u50 u51 u52 u53 u54 u55 u56 u57 u58 u59 u60 u61 u62 u63 u64 u65 u66 u67 u68 u69 u70 u71 u72 u73 u74 u75 u76 u77 u78 u79 u80 u81 u82 u83 u84 u85 u86 u87 u88 u89 u90 u91 u92 u93 u94 u95 u96 u97 u98 u99 u100 u101 u102 u103 u104 u105 u106 u107 u108 u109 u110 u111 u112 u113 u114 u115 u116 u117 u118 u119 u120 u121 u122 u123 u124 u125 u126 u127 u128 u129 u130 u131 u132 u133 u134 u135 u136 u137 u138 u139 u140 u141 u142 u143 u144 u145 u146 u147 u148 u149 u150 u151 u152 u153 u154 u155 u156 u157 u158 u159 u160 u161 u162 u163 u164 u165 u166 u167 u168 u169 u170 u171 u172 u173 u174 u175 u176 u177 u178 u179 u180 u181 u182 u183 u184 w3 hb3
    have HB := Lib.hid hb3
    clear hb3
    go_wp2_with fail
    refine (alive20 _).mono ?_
    rintro e w4 ⟨rfl, hb4⟩
    have HB4 := Lib.hid (HB.out.trans (hb4.mono HB.out.size))
    clear hb4
    go_wp2_with fail
    go_ret
    exact ⟨rfl, HB4.out⟩
end Go.Proofs.Ytnoegbdmjinfjaa
