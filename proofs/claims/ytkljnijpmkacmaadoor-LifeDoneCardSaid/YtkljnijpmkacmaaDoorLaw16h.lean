
/-
  Layer 16's statement: LifeDone, its loop cut into declarations (written by wip/tools/gen16.py).
-/
import Derived.Test.YtkljnijpmkacmaaDoorLaw16
import Derived.Test.YtkljnijpmkacmaaDoorAdr
import Derived.Test.YtkljnijpmkacmaaDoorCut
namespace Go.Proofs.YtkljnijpmkacmaaDoor
set_option maxRecDepth 20000
open Go.RowKit

/-- how far a stream has come: its state, whether it has begun, the peer has said all, all was sent, it is gone -/
inductive LD : Int → Bool → Bool → Bool → Bool → Prop
  | idle : LD 0 false false false false
  | open_ : LD 1 true false false false
  | peer : LD 2 true true false false
  | own : LD 3 true false true false
  | closed (p o : Bool) : LD 4 true p o true
noncomputable def ld_body : Code := loopOf Tryd.f4 0
set_option linter.unusedVariables false in
/-- what holds when at most n rounds are to come -/
def ld_R (w0 : World) (l : List Int) (N bk off c : Nat) (n : Nat) (s3 s4 s5 s6 s7 s8 : Value) (wr : World) : Prop := ∃ k : Nat, k + n = N ∧ s8 = .int .i64 k ∧ (∃ s b p o g, LD s b p o g ∧ s3 = .int .i64 s ∧ s4 = .bool b ∧ s5 = .bool p ∧ s6 = .bool o ∧ s7 = .bool g) ∧ Hid (Below w0.heap.size w0 wr)
set_option maxRecDepth 1000000 in
def ld_I (w0 : World) (l : List Int) (N bk off c : Nat) (c1 c16 c17 c18 c19 c203 : Value) (n : Nat) (a : Act) (wr : World) : Prop := ∃ u2 u3 u4 u5 u6 u7 u8 u9 u10 u11 u12 u13 u14 u15 u20 u21 u22 u23 u24 u25 u26 u27 u28 u29 u30 u31 u32 u33 u34 u35 u36 u37 u38 u39 u40 u41 u42 u43 u44 u45 u46 u47 u48 u49 u50 u51 u52 u53 u54 u55 u56 u57 u58 u59 u60 u61 u62 u63 u64 u65 u66 u67 u68 u69 u70 u71 u72 u73 u74 u75 u76 u77 u78 u79 u80 u81 u82 u83 u84 u85 u86 u87 u88 u89 u90 u91 u92 u93 u94 u95 u96 u97 u98 u99 u100 u101 u102 u103 u104 u105 u106 u107 u108 u109 u110 u111 u112 u113 u114 u115 u116 u117 u118 u119 u120 u121 u122 u123 u124 u125 u126 u127 u128 u129 u130 u131 u132 u133 u134 u135 u136 u137 u138 u139 u140 u141 u142 u143 u144 u145 u146 u147 u148 u149 u150 u151 u152 u153 u154 u155 u156 u157 u158 u159 u160 u161 u162 u163 u164 u165 u166 u167 u168 u169 u170 u171 u172 u173 u174 u175 u176 u177 u178 u179 u180 u181 u182 u183 u184 u185 u186 u187 u188 u189 u190 u191 u192 u193 u194 u195 u196 u197 u198 u199 u200 u201 u202 : Value, ld_R w0 l N bk off c n u3 u4 u5 u6 u7 u8 wr ∧ a = ⟨#[.slice (some ⟨bk, off, none⟩) N c, c1, u2, u3, u4, u5, u6, u7, u8, u9, u10, u11, u12, u13, u14, u15, c16, c17, c18, c19, u20, u21, u22, u23, u24, u25, u26, u27, u28, u29, u30, u31, u32, u33, u34, u35, u36, u37, u38, u39, u40, u41, u42, u43, u44, u45, u46, u47, u48, u49, u50, u51, u52, u53, u54, u55, u56, u57, u58, u59, u60, u61, u62, u63, u64, u65, u66, u67, u68, u69, u70, u71, u72, u73, u74, u75, u76, u77, u78, u79, u80, u81, u82, u83, u84, u85, u86, u87, u88, u89, u90, u91, u92, u93, u94, u95, u96, u97, u98, u99, u100, u101, u102, u103, u104, u105, u106, u107, u108, u109, u110, u111, u112, u113, u114, u115, u116, u117, u118, u119, u120, u121, u122, u123, u124, u125, u126, u127, u128, u129, u130, u131, u132, u133, u134, u135, u136, u137, u138, u139, u140, u141, u142, u143, u144, u145, u146, u147, u148, u149, u150, u151, u152, u153, u154, u155, u156, u157, u158, u159, u160, u161, u162, u163, u164, u165, u166, u167, u168, u169, u170, u171, u172, u173, u174, u175, u176, u177, u178, u179, u180, u181, u182, u183, u184, u185, u186, u187, u188, u189, u190, u191, u192, u193, u194, u195, u196, u197, u198, u199, u200, u201, u202, c203], []⟩
end Go.Proofs.YtkljnijpmkacmaaDoor
