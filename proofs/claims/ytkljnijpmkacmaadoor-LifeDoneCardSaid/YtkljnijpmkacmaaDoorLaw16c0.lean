
/-
  Layer 16: LifeDone: a round at idle (written by wip/tools/gen16.py).
-/
import Derived.Test.YtkljnijpmkacmaaDoorLaw16h
namespace Go.Proofs.YtkljnijpmkacmaaDoor
set_option maxRecDepth 20000
open Go.RowKit

set_option maxRecDepth 1000000 in
set_option maxHeartbeats 4000000 in
theorem ld_idle (w0 : World) (l : List Int) (N bk off c : Nat) (c1 c16 c17 c18 c19 c203 : Value) (n : Nat) (wr : World) (K : Act → World → Prop) (Q : Exit → Act → World → Prop) (k : Nat)
    (u2 u9 u10 u11 u12 u13 u14 u15 u20 u21 u22 u23 u24 u25 u26 u27 u28 u29 u30 u31 u32 u33 u34 u35 u36 u37 u38 u39 u40 u41 u42 u43 u44 u45 u46 u47 u48 u49 u50 u51 u52 u53 u54 u55 u56 u57 u58 u59 u60 u61 u62 u63 u64 u65 u66 u67 u68 u69 u70 u71 u72 u73 u74 u75 u76 u77 u78 u79 u80 u81 u82 u83 u84 u85 u86 u87 u88 u89 u90 u91 u92 u93 u94 u95 u96 u97 u98 u99 u100 u101 u102 u103 u104 u105 u106 u107 u108 u109 u110 u111 u112 u113 u114 u115 u116 u117 u118 u119 u120 u121 u122 u123 u124 u125 u126 u127 u128 u129 u130 u131 u132 u133 u134 u135 u136 u137 u138 u139 u140 u141 u142 u143 u144 u145 u146 u147 u148 u149 u150 u151 u152 u153 u154 u155 u156 u157 u158 u159 u160 u161 u162 u163 u164 u165 u166 u167 u168 u169 u170 u171 u172 u173 u174 u175 u176 u177 u178 u179 u180 u181 u182 u183 u184 u185 u186 u187 u188 u189 u190 u191 u192 u193 u194 u195 u196 u197 u198 u199 u200 u201 u202 : Value)
    (hK : Hid (∀ (m : Nat) (u2 u3 u4 u5 u6 u7 u8 u9 u10 u11 u12 u13 u14 u15 u20 u21 u22 u23 u24 u25 u26 u27 u28 u29 u30 u31 u32 u33 u34 u35 u36 u37 u38 u39 u40 u41 u42 u43 u44 u45 u46 u47 u48 u49 u50 u51 u52 u53 u54 u55 u56 u57 u58 u59 u60 u61 u62 u63 u64 u65 u66 u67 u68 u69 u70 u71 u72 u73 u74 u75 u76 u77 u78 u79 u80 u81 u82 u83 u84 u85 u86 u87 u88 u89 u90 u91 u92 u93 u94 u95 u96 u97 u98 u99 u100 u101 u102 u103 u104 u105 u106 u107 u108 u109 u110 u111 u112 u113 u114 u115 u116 u117 u118 u119 u120 u121 u122 u123 u124 u125 u126 u127 u128 u129 u130 u131 u132 u133 u134 u135 u136 u137 u138 u139 u140 u141 u142 u143 u144 u145 u146 u147 u148 u149 u150 u151 u152 u153 u154 u155 u156 u157 u158 u159 u160 u161 u162 u163 u164 u165 u166 u167 u168 u169 u170 u171 u172 u173 u174 u175 u176 u177 u178 u179 u180 u181 u182 u183 u184 u185 u186 u187 u188 u189 u190 u191 u192 u193 u194 u195 u196 u197 u198 u199 u200 u201 u202 : Value) (w2 : World), m < n → ld_R w0 l N bk off c m u3 u4 u5 u6 u7 u8 w2 → K ⟨#[.slice (some ⟨bk, off, none⟩) N c, c1, u2, u3, u4, u5, u6, u7, u8, u9, u10, u11, u12, u13, u14, u15, c16, c17, c18, c19, u20, u21, u22, u23, u24, u25, u26, u27, u28, u29, u30, u31, u32, u33, u34, u35, u36, u37, u38, u39, u40, u41, u42, u43, u44, u45, u46, u47, u48, u49, u50, u51, u52, u53, u54, u55, u56, u57, u58, u59, u60, u61, u62, u63, u64, u65, u66, u67, u68, u69, u70, u71, u72, u73, u74, u75, u76, u77, u78, u79, u80, u81, u82, u83, u84, u85, u86, u87, u88, u89, u90, u91, u92, u93, u94, u95, u96, u97, u98, u99, u100, u101, u102, u103, u104, u105, u106, u107, u108, u109, u110, u111, u112, u113, u114, u115, u116, u117, u118, u119, u120, u121, u122, u123, u124, u125, u126, u127, u128, u129, u130, u131, u132, u133, u134, u135, u136, u137, u138, u139, u140, u141, u142, u143, u144, u145, u146, u147, u148, u149, u150, u151, u152, u153, u154, u155, u156, u157, u158, u159, u160, u161, u162, u163, u164, u165, u166, u167, u168, u169, u170, u171, u172, u173, u174, u175, u176, u177, u178, u179, u180, u181, u182, u183, u184, u185, u186, u187, u188, u189, u190, u191, u192, u193, u194, u195, u196, u197, u198, u199, u200, u201, u202, c203], []⟩ w2))
    (hR : Hid (∀ (u3 u4 u5 u6 u7 u8 u9 u10 u11 u12 u13 u14 u15 u20 u21 u22 u23 u24 u25 u26 u27 u28 u29 u30 u31 u32 u33 u34 u35 u36 u37 u38 u39 u40 u41 u42 u43 u44 u45 u46 u47 u48 u49 u50 u51 u52 u53 u54 u55 u56 u57 u58 u59 u60 u61 u62 u63 u64 u65 u66 u67 u68 u69 u70 u71 u72 u73 u74 u75 u76 u77 u78 u79 u80 u81 u82 u83 u84 u85 u86 u87 u88 u89 u90 u91 u92 u93 u94 u95 u96 u97 u98 u99 u100 u101 u102 u103 u104 u105 u106 u107 u108 u109 u110 u111 u112 u113 u114 u115 u116 u117 u118 u119 u120 u121 u122 u123 u124 u125 u126 u127 u128 u129 u130 u131 u132 u133 u134 u135 u136 u137 u138 u139 u140 u141 u142 u143 u144 u145 u146 u147 u148 u149 u150 u151 u152 u153 u154 u155 u156 u157 u158 u159 u160 u161 u162 u163 u164 u165 u166 u167 u168 u169 u170 u171 u172 u173 u174 u175 u176 u177 u178 u179 u180 u181 u182 u183 u184 u185 u186 u187 u188 u189 u190 u191 u192 u193 u194 u195 u196 u197 u198 u199 u200 u201 u202 : Value) (w2 : World), Below w0.heap.size w0 w2 → Q .ret ⟨#[.slice (some ⟨bk, off, none⟩) N c, c1, .bool true, u3, u4, u5, u6, u7, u8, u9, u10, u11, u12, u13, u14, u15, c16, c17, c18, c19, u20, u21, u22, u23, u24, u25, u26, u27, u28, u29, u30, u31, u32, u33, u34, u35, u36, u37, u38, u39, u40, u41, u42, u43, u44, u45, u46, u47, u48, u49, u50, u51, u52, u53, u54, u55, u56, u57, u58, u59, u60, u61, u62, u63, u64, u65, u66, u67, u68, u69, u70, u71, u72, u73, u74, u75, u76, u77, u78, u79, u80, u81, u82, u83, u84, u85, u86, u87, u88, u89, u90, u91, u92, u93, u94, u95, u96, u97, u98, u99, u100, u101, u102, u103, u104, u105, u106, u107, u108, u109, u110, u111, u112, u113, u114, u115, u116, u117, u118, u119, u120, u121, u122, u123, u124, u125, u126, u127, u128, u129, u130, u131, u132, u133, u134, u135, u136, u137, u138, u139, u140, u141, u142, u143, u144, u145, u146, u147, u148, u149, u150, u151, u152, u153, u154, u155, u156, u157, u158, u159, u160, u161, u162, u163, u164, u165, u166, u167, u168, u169, u170, u171, u172, u173, u174, u175, u176, u177, u178, u179, u180, u181, u182, u183, u184, u185, u186, u187, u188, u189, u190, u191, u192, u193, u194, u195, u196, u197, u198, u199, u200, u201, u202, c203], []⟩ w2)) (HT : Hid (LfT w0)) (HN : Hid (N = l.length)) (hN : N ≤ 100) (HS : Hid (Sl .u8 w0 (.slice (some ⟨bk, off, none⟩) N c) l)) (hkq : k + n = N) (HB : Hid (Below w0.heap.size w0 wr)) (hlt : k < N) :
    Code.wp Tryd.prog ld_body (Exit.then K Q) ⟨#[.slice (some ⟨bk, off, none⟩) N c, c1, u2, .int .i64 0, .bool false, .bool false, .bool false, .bool false, .int .i64 (k : Int), u9, u10, u11, u12, u13, u14, u15, c16, c17, c18, c19, u20, u21, u22, u23, u24, u25, u26, u27, u28, u29, u30, u31, u32, u33, u34, u35, u36, u37, u38, u39, u40, u41, u42, u43, u44, u45, u46, u47, u48, u49, u50, u51, u52, u53, u54, u55, u56, u57, u58, u59, u60, u61, u62, u63, u64, u65, u66, u67, u68, u69, u70, u71, u72, u73, u74, u75, u76, u77, u78, u79, u80, u81, u82, u83, u84, u85, u86, u87, u88, u89, u90, u91, u92, u93, u94, u95, u96, u97, u98, u99, u100, u101, u102, u103, u104, u105, u106, u107, u108, u109, u110, u111, u112, u113, u114, u115, u116, u117, u118, u119, u120, u121, u122, u123, u124, u125, u126, u127, u128, u129, u130, u131, u132, u133, u134, u135, u136, u137, u138, u139, u140, u141, u142, u143, u144, u145, u146, u147, u148, u149, u150, u151, u152, u153, u154, u155, u156, u157, u158, u159, u160, u161, u162, u163, u164, u165, u166, u167, u168, u169, u170, u171, u172, u173, u174, u175, u176, u177, u178, u179, u180, u181, u182, u183, u184, u185, u186, u187, u188, u189, u190, u191, u192, u193, u194, u195, u196, u197, u198, u199, u200, u201, u202, c203], []⟩ wr := by
  conv => arg 2; whnf
  have HKQ := Lib.hid hkq
  have hk : k ≤ N := by omega
  clear hkq
  have c0 := (HS.out.below HB.out).at_ k (by rw [← HN.out]; exact hlt)
  have hb : bk < wr.heap.size := World.block_lt_of_cell? _ _ c0
  have hby := HS.out.fit.byte k
  obtain ⟨z, hz⟩ : ∃ z, at0 l k = z := ⟨_, rfl⟩
  rw [hz] at c0 hby
  have HE := Lib.hid (show 0 ≤ z % 9 ∧ z % 9 ≤ 8 by omega)
  clear hz
  go_wp2_with fail
  refine (pAfter_any _ _ _ (HT.out.below HB.out)).mono ?_
  rintro e w1 ⟨rfl, hb⟩
  have H1 := Lib.hid (HB.out.trans (hb.mono HB.out.size))
  clear hb
  have HE2 := HE.out
  generalize z % 9 = e at HE2 ⊢
  clear HE
  obtain rfl | rfl | HE2 | HE2 : e = 0 ∨ e = 1 ∨ (2 ≤ e ∧ e ≤ 5) ∨ (6 ≤ e ∧ e ≤ 8) := by omega
  · skip
    rw [show lifeV (lifeN 0 0) = .tuple #[.agg #[.int .i64 1, .int .i64 0, .bool false], .int .i64 0] from rfl]
    have hal := (Below.refl w1.heap.size w1).alloc (Nat.le_refl _) (.cells #[.int .i64 1, .int .i64 0, .bool false] 25)
    replace H1 := Lib.hid (H1.out.trans (hal.mono H1.out.size))
    clear hal
    have N1 := Lib.hid (NxAt.new w1 25 1 0 false)
    have c10 := N1.out.c0
    have c11 := N1.out.c1
    have c12 := N1.out.c2
    have s1 := N1.out.lt
    go_wp2_with fail
    refine (pHears_any 1 _).mono ?_
    rintro e w2 ⟨rfl, hb⟩
    replace N1 := Lib.hid (N1.out.grown hb)
    have H2 := Lib.hid (H1.out.trans (hb.mono H1.out.size))
    clear hb
    rw [show ((1 : Int) == 1 || (1 : Int) == 3) = true from rfl]
    clear c10 c11 c12 s1
    have c10 := N1.out.c0
    have c11 := N1.out.c1
    have c12 := N1.out.c2
    have s1 := N1.out.lt
    go_wp2_with fail
    refine (pSays_any 1 _).mono ?_
    rintro e w3 ⟨rfl, hb⟩
    replace N1 := Lib.hid (N1.out.grown hb)
    have H3 := Lib.hid (H2.out.trans (hb.mono H2.out.size))
    clear hb
    rw [show ((1 : Int) == 1 || (1 : Int) == 2) = true from rfl]
    clear c10 c11 c12 s1
    have c10 := N1.out.c0
    have c11 := N1.out.c1
    have c12 := N1.out.c2
    have s1 := N1.out.lt
    go_wp2_with fail
    exact hK.out (N - (k + 1)) _ _ _ _ _ _ _ _ _ _ _ _ _ _ _ _ _ _ _ _ _ _ _ _ _ _ _ _ _ _ _ _ _ _ _ _ _ _ _ _ _ _ _ _ _ _ _ _ _ _ _ _ _ _ _ _ _ _ _ _ _ _ _ _ _ _ _ _ _ _ _ _ _ _ _ _ _ _ _ _ _ _ _ _ _ _ _ _ _ _ _ _ _ _ _ _ _ _ _ _ _ _ _ _ _ _ _ _ _ _ _ _ _ _ _ _ _ _ _ _ _ _ _ _ _ _ _ _ _ _ _ _ _ _ _ _ _ _ _ _ _ _ _ _ _ _ _ _ _ _ _ _ _ _ _ _ _ _ _ _ _ _ _ _ _ _ _ _ _ _ _ _ _ _ _ _ _ _ _ _ _ _ _ _ _ _ _ _ _ _ _ _ _ _ _ _ _ _ (by have := HKQ.out; omega) (⟨k + 1, by have := HKQ.out; omega, by go_num, ⟨_, _, _, _, _, .open_, rfl, rfl, rfl, rfl, rfl⟩, H3⟩)
  · skip
    rw [show lifeV (lifeN 0 1) = .tuple #[.agg #[.int .i64 2, .int .i64 0, .bool false], .int .i64 0] from rfl]
    have hal := (Below.refl w1.heap.size w1).alloc (Nat.le_refl _) (.cells #[.int .i64 2, .int .i64 0, .bool false] 25)
    replace H1 := Lib.hid (H1.out.trans (hal.mono H1.out.size))
    clear hal
    have N1 := Lib.hid (NxAt.new w1 25 2 0 false)
    have c10 := N1.out.c0
    have c11 := N1.out.c1
    have c12 := N1.out.c2
    have s1 := N1.out.lt
    go_wp2_with fail
    refine (pHears_any 2 _).mono ?_
    rintro e w2 ⟨rfl, hb⟩
    replace N1 := Lib.hid (N1.out.grown hb)
    have H2 := Lib.hid (H1.out.trans (hb.mono H1.out.size))
    clear hb
    rw [show ((2 : Int) == 1 || (2 : Int) == 3) = false from rfl]
    clear c10 c11 c12 s1
    have c10 := N1.out.c0
    have c11 := N1.out.c1
    have c12 := N1.out.c2
    have s1 := N1.out.lt
    go_wp2_with fail
    refine (pSays_any 2 _).mono ?_
    rintro e w3 ⟨rfl, hb⟩
    replace N1 := Lib.hid (N1.out.grown hb)
    have H3 := Lib.hid (H2.out.trans (hb.mono H2.out.size))
    clear hb
    rw [show ((2 : Int) == 1 || (2 : Int) == 2) = true from rfl]
    clear c10 c11 c12 s1
    have c10 := N1.out.c0
    have c11 := N1.out.c1
    have c12 := N1.out.c2
    have s1 := N1.out.lt
    go_wp2_with fail
    exact hK.out (N - (k + 1)) _ _ _ _ _ _ _ _ _ _ _ _ _ _ _ _ _ _ _ _ _ _ _ _ _ _ _ _ _ _ _ _ _ _ _ _ _ _ _ _ _ _ _ _ _ _ _ _ _ _ _ _ _ _ _ _ _ _ _ _ _ _ _ _ _ _ _ _ _ _ _ _ _ _ _ _ _ _ _ _ _ _ _ _ _ _ _ _ _ _ _ _ _ _ _ _ _ _ _ _ _ _ _ _ _ _ _ _ _ _ _ _ _ _ _ _ _ _ _ _ _ _ _ _ _ _ _ _ _ _ _ _ _ _ _ _ _ _ _ _ _ _ _ _ _ _ _ _ _ _ _ _ _ _ _ _ _ _ _ _ _ _ _ _ _ _ _ _ _ _ _ _ _ _ _ _ _ _ _ _ _ _ _ _ _ _ _ _ _ _ _ _ _ _ _ _ _ _ (by have := HKQ.out; omega) (⟨k + 1, by have := HKQ.out; omega, by go_num, ⟨_, _, _, _, _, .peer, rfl, rfl, rfl, rfl, rfl⟩, H3⟩)
  · skip
    rw [show lifeV (lifeN 0 e) = .tuple #[.agg #[.int .i64 0, .int .i64 1, .bool true], .int .i64 0] by (obtain rfl | rfl | rfl | rfl : e = 2 ∨ e = 3 ∨ e = 4 ∨ e = 5 := by omega) <;> rfl]
    clear HE2
    have hal := (Below.refl w1.heap.size w1).alloc (Nat.le_refl _) (.cells #[.int .i64 0, .int .i64 1, .bool true] 25)
    replace H1 := Lib.hid (H1.out.trans (hal.mono H1.out.size))
    clear hal
    have N1 := Lib.hid (NxAt.new w1 25 0 1 true)
    have c10 := N1.out.c0
    have c11 := N1.out.c1
    have c12 := N1.out.c2
    have s1 := N1.out.lt
    go_wp2_with fail
    refine (alive16 _ (Lib.hid (HT.out.below H1.out))).mono ?_
    rintro e w2 ⟨rfl, hb⟩
    replace N1 := Lib.hid (N1.out.grown hb)
    have H2 := Lib.hid (H1.out.trans (hb.mono H1.out.size))
    clear hb
    clear c10 c11 c12 s1
    have c10 := N1.out.c0
    have c11 := N1.out.c1
    have c12 := N1.out.c2
    have s1 := N1.out.lt
    go_wp2_with fail
    exact hR.out _ _ _ _ _ _ _ _ _ _ _ _ _ _ _ _ _ _ _ _ _ _ _ _ _ _ _ _ _ _ _ _ _ _ _ _ _ _ _ _ _ _ _ _ _ _ _ _ _ _ _ _ _ _ _ _ _ _ _ _ _ _ _ _ _ _ _ _ _ _ _ _ _ _ _ _ _ _ _ _ _ _ _ _ _ _ _ _ _ _ _ _ _ _ _ _ _ _ _ _ _ _ _ _ _ _ _ _ _ _ _ _ _ _ _ _ _ _ _ _ _ _ _ _ _ _ _ _ _ _ _ _ _ _ _ _ _ _ _ _ _ _ _ _ _ _ _ _ _ _ _ _ _ _ _ _ _ _ _ _ _ _ _ _ _ _ _ _ _ _ _ _ _ _ _ _ _ _ _ _ _ _ _ _ _ _ _ _ _ _ _ _ _ _ _ _ _ H2.out
  · skip
    rw [show lifeV (lifeN 0 e) = .tuple #[.agg #[.int .i64 0, .int .i64 0, .bool false], .int .i64 6] by (obtain rfl | rfl | rfl : e = 6 ∨ e = 7 ∨ e = 8 := by omega) <;> rfl]
    have t1 : decide (e < 6) = false := decide_eq_false (by omega)
    clear HE2
    have hal := (Below.refl w1.heap.size w1).alloc (Nat.le_refl _) (.cells #[.int .i64 0, .int .i64 0, .bool false] 25)
    replace H1 := Lib.hid (H1.out.trans (hal.mono H1.out.size))
    clear hal
    have N1 := Lib.hid (NxAt.new w1 25 0 0 false)
    go_wp2_with fail
    exact hK.out (N - (k + 1)) _ _ _ _ _ _ _ _ _ _ _ _ _ _ _ _ _ _ _ _ _ _ _ _ _ _ _ _ _ _ _ _ _ _ _ _ _ _ _ _ _ _ _ _ _ _ _ _ _ _ _ _ _ _ _ _ _ _ _ _ _ _ _ _ _ _ _ _ _ _ _ _ _ _ _ _ _ _ _ _ _ _ _ _ _ _ _ _ _ _ _ _ _ _ _ _ _ _ _ _ _ _ _ _ _ _ _ _ _ _ _ _ _ _ _ _ _ _ _ _ _ _ _ _ _ _ _ _ _ _ _ _ _ _ _ _ _ _ _ _ _ _ _ _ _ _ _ _ _ _ _ _ _ _ _ _ _ _ _ _ _ _ _ _ _ _ _ _ _ _ _ _ _ _ _ _ _ _ _ _ _ _ _ _ _ _ _ _ _ _ _ _ _ _ _ _ _ _ (by have := HKQ.out; omega) (⟨k + 1, by have := HKQ.out; omega, by go_num, ⟨_, _, _, _, _, .idle, rfl, rfl, rfl, rfl, rfl⟩, H1⟩)
end Go.Proofs.YtkljnijpmkacmaaDoor
