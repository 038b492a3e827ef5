
/-
  Package literal: how a text is laid out, its bytes, the shorter ones.
-/
import Derived.Test.YtimggejonppegaaDoorPrefEnc
import Derived.Test.YtimggejonppegaaDoorHuffSize
import Derived.Test.YtimggejonppegaaDoorHuffEnc
import Derived.Test.YtimggejonppegaaDoorLaw04
import Derived.Test.YtimggejonppegaaDoorStr
import Derived.Test.YtimggejonppegaaDoorLitMath
namespace Go.Proofs.YtimggejonppegaaDoor
open Go.RowKit

theorem isText_any (s : ByteArray) (w : World) :
    Calls Tryd.prog 33 #[.string s] w fun e w' => e = .returned (.bool (decide (s.size ≤ 65536))) ∧ w = w' := by
  have HD := Lib.hid (show decide ((s.size : Int) ≤ 65536) = decide (s.size ≤ 65536) from decide_eq_decide.2 (by omega))
  go_enter Tryd.func33, Tryd.ntmps33
  go_wp2
  go_ret
  exact ⟨by rw [← HD.out]; rfl, rfl⟩

theorem lay1_any (s : ByteArray) (w : World) (hs : s.size ≤ 1000000) :
    Calls Tryd.prog 42 #[.string s] w fun e w' => ∃ v, e = .returned v ∧ Sl .u8 w' v (body true (nums s)) ∧ Below w.heap.size w w' := by
  obtain ⟨v, W, hc, hv, hb⟩ := str_bytes (P := Tryd.prog) w 9 24 5 s Tryd.underlying9 Tryd.underlying24 Tryd.underlying5 (by unfold maxLen; omega)
  have HS := Lib.hid (And.intro hv hb)
  clear hv hb
  go_enter Tryd.func42, Tryd.ntmps42
  go_wp2_with fail
  refine (enc_any v (nums s) _ HS.out.1 (by rw [nums_length]; exact hs)).mono ?_
  rintro e w1 ⟨x, rfl, hx, hb1⟩
  have HX := Lib.hid (And.intro hx (HS.out.2.trans (hb1.mono HS.out.2.size)))
  clear hx hb1
  go_wp2_with fail
  go_ret
  exact ⟨x, rfl, HX.out⟩
theorem lay2_any (s : ByteArray) (w : World) (hs : s.size ≤ 1000000) :
    Calls Tryd.prog 44 #[.string s] w fun e w' => ∃ v, e = .returned v ∧ Sl .u8 w' v (body false (nums s)) ∧ Below w.heap.size w w' := by
  obtain ⟨v, W, hc, hv, hb⟩ := str_bytes (P := Tryd.prog) w 9 24 5 s Tryd.underlying9 Tryd.underlying24 Tryd.underlying5 (by unfold maxLen; omega)
  have HS := Lib.hid (And.intro hv hb)
  clear hv hb
  go_enter Tryd.func44, Tryd.ntmps44
  go_wp2_with fail
  go_ret
  exact ⟨v, rfl, HS.out⟩

/-- which function makes what stands behind the count -/
def bodyFn (sq : Bool) : Nat := if sq then 42 else 44
theorem bodyFn_any (sq : Bool) (s : ByteArray) (w : World) (hs : s.size ≤ 1000000) :
    Calls Tryd.prog (bodyFn sq) #[.string s] w fun e w' => ∃ v, e = .returned v ∧ Sl .u8 w' v (body sq (nums s)) ∧ Below w.heap.size w w' := by
  cases sq
  · exact lay2_any s w hs
  · exact lay1_any s w hs
/-- a layout, as a value -/
def Lay (sq : Bool) (w : World) (v : Value) : Prop := ∃ pb pa, v = .func (.func 52) #[] #[.pointer (some ⟨pb, 0, none⟩), .pointer (some ⟨pa, 0, none⟩)] ∧ pb < w.heap.size ∧ pa < w.heap.size ∧
  w.cell? ⟨pb, 0, none⟩ = some (.func (.func (bodyFn sq)) #[] #[]) ∧ w.cell? ⟨pa, 0, none⟩ = some (.int .i64 (above sq))

theorem counted_any (sq : Bool) (w : World) :
    Calls Tryd.prog 41 #[.int .i64 (above sq), .func (.func (bodyFn sq)) #[] #[]] w fun e w' => ∃ v, e = .returned v ∧ Lay sq w' v ∧ Below w.heap.size w w' := by
  have hmf : ∀ (fn : Fn) (first cap : Array Value) (w : World), (Instr.makeFunc fn first cap).run Tryd.prog w = .ok (.func fn first cap) w := fun _ _ _ _ => rfl
  go_enter Tryd.func41, Tryd.ntmps41
  go_wp2_with fail
  go_ret
  refine ⟨_, rfl, ⟨_, _, rfl, ?_, ?_, ?_, ?_⟩, ?_⟩
  · simp
  · simp; omega
  · rw [World.cell?_alloc_at _ _ _ _ (by simp)]; rfl
  · rw [World.cell?_alloc_past _ _ _ (by simp), World.cell?_alloc_at _ _ _ _ rfl]; rfl
  · exact ((Below.refl _ _).alloc (Nat.le_refl _) _).alloc (by simp) _

theorem laidOut_any (sq : Bool) (w : World) :
    Calls Tryd.prog 34 #[.bool sq] w fun e w' => ∃ v, e = .returned v ∧ Lay sq w' v ∧ Below w.heap.size w w' := by
  cases sq
  · go_enter Tryd.func34, Tryd.ntmps34
    go_wp2_with fail
    refine (counted_any false _).mono ?_
    rintro e w1 ⟨x, rfl, hx⟩
    go_wp2_with fail
    go_ret
    exact ⟨x, rfl, hx⟩
  · go_enter Tryd.func34, Tryd.ntmps34
    go_wp2_with fail
    refine (counted_any true _).mono ?_
    rintro e w1 ⟨x, rfl, hx⟩
    go_wp2_with fail
    go_ret
    exact ⟨x, rfl, hx⟩

theorem encOk_lit (sq : Bool) {zs : List Int} (hf : Fit .u8 zs) (hz : zs.length ≤ 1000000) : encOk (body sq zs).length 7 (above sq) := by
  have h1 := body_length sq hf
  refine ⟨by omega, by omega, ?_⟩
  have h2 := above_le sq
  have h3 := above_mod sq
  rw [full7] at *
  exact ⟨h2.1, by omega, h3⟩

set_option maxHeartbeats 1000000 in
theorem counted1_any (sq : Bool) (s : ByteArray) (pb pa : Nat) (w : World) (hs : s.size ≤ 1000000) (hpa : pa < w.heap.size)
    (hcb : w.cell? ⟨pb, 0, none⟩ = some (.func (.func (bodyFn sq)) #[] #[])) (hca : w.cell? ⟨pa, 0, none⟩ = some (.int .i64 (above sq))) :
    Calls Tryd.prog 52 #[.string s, .pointer (some ⟨pb, 0, none⟩), .pointer (some ⟨pa, 0, none⟩)] w fun e w' => ∃ v, e = .returned v ∧ Sl .u8 w' v (lit sq (nums s)) ∧ Below w.heap.size w w' := by
  have hz : (nums s).length ≤ 1000000 := by rw [nums_length]; exact hs
  have hf := nums_fit s
  have HOK := Lib.hid (encOk_lit sq hf hz)
  have hbl := body_length sq hf
  have hhl := head_length sq hf hz
  have HC : Hid (∀ W, Calls Tryd.prog (bodyFn sq) #[.string s] W fun e w' => ∃ v, e = .returned v ∧ Sl .u8 w' v (body sq (nums s)) ∧ Below W.heap.size W w') := fun W => bodyFn_any sq s W hs
  obtain ⟨F, hF⟩ : ∃ F, bodyFn sq = F := ⟨_, rfl⟩
  rw [hF] at hcb HC
  have hF2 : F = 42 ∨ F = 44 := by rw [← hF]; cases sq <;> decide
  clear hF
  rcases hF2 with rfl | rfl
  all_goals
    go_enter Tryd.func52, Tryd.ntmps52
    go_wp2_with fail
    refine (HC.out _).mono ?_
    rintro e w1 ⟨x, rfl, hx, hb1⟩
    have hca1 := (hb1.cell (p := ⟨pa, 0, none⟩) hpa).trans hca
    have HS := Lib.hid (And.intro hx hb1)
    obtain ⟨ax, cx, rfl, _⟩ := id hx
    obtain ⟨NX, hNX⟩ : ∃ NX, (body sq (nums s)).length = NX := ⟨_, rfl⟩
    have HNX := Lib.hid hNX
    rw [hNX] at HOK HS hbl ⊢
    clear hNX hx hb1 hcb
    go_wp2_with fail
    refine (prefEnc_own NX 7 (above sq) _ HOK.out).mono ?_
    rintro e w2 ⟨y, rfl, hO, hb2⟩
    obtain ⟨ay, cy, rfl, _⟩ := owned_shape hO
    have hfit2 := HOK.out.fit
    have HB2 : Hid (Sl .u8 w2 (.slice ax NX cx) (body sq (nums s)) ∧ Below w.heap.size w w2) := ⟨HS.out.1.below hb2, HS.out.2.trans (hb2.mono HS.out.2.size)⟩
    have hsz := hb2.size
    have hw1 := HS.out.2.size
    have hh : (encP (fullP 7) (above sq) NX).length ≤ 5 := by rw [← HNX.out]; exact hhl.2
    clear HS hb2
    go_wp2_with (at_builtin; refine app_ints rfl (.tmp 18) (.tmp 19) 24 rfl w1.heap.size 5 .u8 1 Tryd.underlying24 Tryd.info5' _ _ (encP (fullP 7) (above sq) NX) rfl hO _ (body sq (nums s)) rfl HB2.out.1 (by rw [HNX.out]; omega) (by rw [HNX.out]; unfold maxLen; omega) hsz ?_; intro v3 w3 hO3 hb3 hg3; obtain ⟨a3, c3, rfl, _⟩ := owned_shape hO3)
    go_ret
    refine ⟨_, rfl, Sl.of_own (base := w1.heap.size) (e := 5) (zs := lit sq (nums s)) (n := (lit sq (nums s)).length) ?_ (lit_fit sq hf hz) ?_, ?_⟩
    · have e : lit sq (nums s) = encP (fullP 7) (above sq) NX ++ body sq (nums s) := by rw [lit, head, HNX.out]
      rw [e, List.length_append]
      exact hO3
    · have := lit_length sq hf hz; unfold maxLen; omega
    · exact HB2.out.2.trans (hb3.mono hw1)

/-- a text's bytes, or the error -/
def encL (sq : Bool) (s : ByteArray) : List Int × Int := if s.size ≤ 65536 then (lit sq (nums s), 0) else ([], 1)
theorem short_any (s : ByteArray) (w : World) (hs : s.size ≤ 65536) :
    Calls Tryd.prog 16 #[.string s] w fun e w' => ∃ v, e = .returned v ∧ Sl .u8 w' v (litS (nums s)) ∧ Below w.heap.size w w' := by
  obtain ⟨v, W, hc, hv, hb⟩ := str_bytes (P := Tryd.prog) w 9 24 5 s Tryd.underlying9 Tryd.underlying24 Tryd.underlying5 (by unfold maxLen; omega)
  have HS := Lib.hid (And.intro hv hb)
  clear hv hb
  have HD := Lib.hid (show decide (sizeT (nums s) < s.size) = decide (sizeT (nums s) < (nums s).length) from decide_eq_decide.2 (by rw [nums_length]))
  obtain ⟨sq, hsq⟩ : ∃ sq, decide (sizeT (nums s) < (nums s).length) = sq := ⟨_, rfl⟩
  have HL := Lib.hid (show litS (nums s) = lit sq (nums s) by rw [litS, hsq])
  rw [hsq] at HD
  clear hsq
  go_enter Tryd.func16, Tryd.ntmps16
  go_wp2_with fail
  refine (isText_any s _).mono ?_
  rintro e w' ⟨rfl, rfl⟩
  rw [decide_eq_true hs]
  go_wp2_with fail
  refine (Size_any v (nums s) _ HS.out.1 (by rw [nums_length]; omega)).mono ?_
  rintro e w' ⟨rfl, n, rfl⟩
  have HS1 := Lib.hid (below_drewN HS.out.2 n)
  clear HS
  go_wp2_with fail
  rw [HD.out]
  refine (laidOut_any sq _).mono ?_
  rintro e w1 ⟨x, rfl, ⟨pb, pa, rfl, h1, h2, h3, h4⟩, hb1⟩
  have HS2 := Lib.hid (And.intro h2 (And.intro h3 (And.intro h4 (HS1.out.trans (hb1.mono HS1.out.size)))))
  clear h1 h2 h3 h4 hb1
  go_wp2_with fail
  refine (counted1_any sq s pb pa _ (by omega) HS2.out.1 HS2.out.2.1 HS2.out.2.2.1).mono ?_
  rintro e w2 ⟨y, rfl, hy, hb2⟩
  have HY := Lib.hid (And.intro hy (HS2.out.2.2.2.trans (hb2.mono HS2.out.2.2.2.size)))
  clear hy hb2
  go_wp2_with fail
  go_ret
  rw [HL.out]
  exact ⟨_, rfl, HY.out⟩
end Go.Proofs.YtimggejonppegaaDoor
