
/-
  Layer 10's statement: get, the live question.
-/
import Derived.Test.YtabonhiolcjnnaaLaw10
import Derived.Test.YtabonhiolcjnnaaFldRow
namespace Go.Proofs.Ytabonhiolcjnnaa
set_option maxRecDepth 20000
open Go.RowKit

def vGet : ByteArray := tx [71, 69, 84]
def vHttps : ByteArray := tx [104, 116, 116, 112, 115]
def vSlash : ByteArray := tx [47]
def getL : List Fd := [(nMeth, vGet), (nSchm, vHttps), (nPath, vSlash)]
theorem get10_any (w : World) : Calls Try.prog 18 #[] w fun e w' => ∃ v, e = .returned v ∧ RowF w' w.heap.size v getL ∧ Below w.heap.size w w' := by
  go_enter Try.func18, Try.ntmps18
  go_wp2_with fail
  go_ret
  exact ⟨_, rfl, rowF_lit w getL w.heap.size (Nat.le_refl _) (by decide) _ rfl 3 rfl, (Below.refl _ _).alloc (Nat.le_refl _) _⟩
def alA : List Fd := [(nLen, tx [48, 49, 50]), (nTe, nTrail)]
def alB : List Fd := [(nTe, tx [103, 122, 105, 112])]
def alC : List Fd := [(nMeth, vConn), (nAuth, tx [97, 58, 49])]
def alD : List Fd := [(nStat, tx [53, 57, 57])]
def alE : List Fd := [(nStat, tx [49, 48, 48])]
theorem al10_a : reqB (getL ++ alA) = true ∧ lenL (getL ++ alA) = 12 ∧ reqB (getL ++ alB) = false ∧ reqB alC = true ∧ trailB ((getL ++ alA).drop 3) = true ∧ trailB (getL ++ alA) = false ∧ respB alD = true ∧ respB alE = false ∧ lenL getL = -1 := by decide +kernel
theorem al10_b : tokB true (nums (tx [120, 45, 121])) = true ∧ tokB true (nums (tx [88])) = false ∧ valB (nums (tx [97, 32, 98])) = true ∧ valB (nums (tx [32, 97])) = false := by decide +kernel
theorem al10_m : Mild (getL ++ alA) ∧ Mild (getL ++ alB) ∧ Mild alC ∧ Mild alD ∧ Mild alE ∧ Mild getL := by
  unfold Mild
  decide +kernel
/-- the lists that are held, behind what has gone on since w -/
def Al10 (w : World) (v2 v4 tl v5 : Value) (W : World) : Prop := SlD W v2 (getL ++ alA) ∧ SlD W v4 (getL ++ alB) ∧ SlD W tl ((getL ++ alA).drop 3) ∧ SlD W v5 alC ∧ Below w.heap.size w W
theorem Al10.grown {w W W' : World} {v2 v4 tl v5 : Value} (h : Al10 w v2 v4 tl v5 W) (hb : Below W.heap.size W W') : Al10 w v2 v4 tl v5 W' :=
  ⟨h.1.below hb, h.2.1.below hb, h.2.2.1.below hb, h.2.2.2.1.below hb, h.2.2.2.2.trans (hb.mono h.2.2.2.2.size)⟩
set_option maxHeartbeats 4000000 in
theorem alive10 (w : World) : Calls Try.prog 5 #[] w fun e w' => e = .returned (.bool true) ∧ Below w.heap.size w w' := by
  go_enter Try.func5, Try.ntmps5
  go_wp2_with fail
  refine (get10_any _).mono ?_
  rintro e w1 ⟨v1, rfl, hr1, hb1⟩
  have H1 := Lib.hid (And.intro hr1 hb1)
  clear hr1 hb1
  have hal := (Below.refl w1.heap.size w1).alloc (Nat.le_refl _) (.cells (fcs alA).toArray 29)
  have hr := H1.out.1.below hal
  have hn := heap_alloc_new w1 (.cells (fcs alA).toArray 29)
  have hz : w.heap.size ≤ (w1.alloc (.cells (fcs alA).toArray 29)).heap.size := Nat.le_trans H1.out.2.size hal.size
  have HB := Lib.hid (H1.out.2.trans (hal.mono H1.out.2.size))
  go_wp2_with (refine app_flds rfl (.tmp 4) (.tmp 7) rfl w.heap.size v1 getL rfl hr w1.heap.size 2 alA rfl rfl hn (by decide) hz ?_; intro v2 Z2 hr2 hg2; obtain ⟨a2, c2, e2⟩ := hr2.shape; have e2 : v2 = .slice a2 5 c2 := e2; subst e2; have H2 := Lib.hid (And.intro hr2 (below_grew HB.out hr hg2)); clear hr2 hg2 hal hr hn hz HB H1)
  refine (get10_any _).mono ?_
  rintro e w3 ⟨v3, rfl, hr3, hb3⟩
  have H3 := Lib.hid (And.intro hr3 hb3)
  clear hr3 hb3
  have hal := (Below.refl w3.heap.size w3).alloc (Nat.le_refl _) (.cells (fcs alB).toArray 29)
  have hr := H3.out.1.below hal
  have hn := heap_alloc_new w3 (.cells (fcs alB).toArray 29)
  have hz : Z2.heap.size ≤ (w3.alloc (.cells (fcs alB).toArray 29)).heap.size := Nat.le_trans H3.out.2.size hal.size
  have HB := Lib.hid (H3.out.2.trans (hal.mono H3.out.2.size))
  go_wp2_with (refine app_flds rfl (.tmp 9) (.tmp 11) rfl Z2.heap.size v3 getL rfl hr w3.heap.size 1 alB rfl rfl hn (by decide) hz ?_; intro v4 Z4 hr4 hg4; obtain ⟨a4, c4, e4⟩ := hr4.shape; have e4 : v4 = .slice a4 4 c4 := e4; subst e4; have hb24 := below_grew HB.out hr hg4; have H4 := Lib.hid (And.intro (H2.out.1.below hb24).toSl (And.intro hr4.toSl (H2.out.2.trans (hb24.mono H2.out.2.size)))); clear hr4 hg4 hb24 hal hr hn hz HB H3 H2; obtain ⟨tl, htl0, hsl⟩ := SlD.from_ (P := Try.prog) (t := 22) slcFd (fun _ => by kernel_rfl) H4.out.1 3 (by decide); have htl : ∀ (kl : IntKind) (w1 : World), (Instr.slice 22 (.slice a2 5 c2) (some (.int kl (3 : Int))) none none).run Try.prog w1 = .ok tl w1 := htl0; have HS := Lib.hid hsl; clear htl0 hsl)
  have hal := (Below.refl Z4.heap.size Z4).alloc (Nat.le_refl _) (.cells (fcs alC).toArray 29)
  have H5 : Hid (Al10 w (.slice a2 5 c2) (.slice a4 4 c4) tl (.slice (some ⟨Z4.heap.size, 0, none⟩) 2 2) (Z4.alloc (.cells (fcs alC).toArray 29))) :=
    ⟨H4.out.1.below hal, H4.out.2.1.below hal, HS.out.below hal, (rowF_lit Z4 alC 0 (Nat.zero_le _) (by decide) _ rfl 2 rfl).toSl, H4.out.2.2.trans (hal.mono H4.out.2.2.size)⟩
  clear hal H4 HS
  refine (pReq_any _ _ _ H5.out.1 al10_m.1 (by decide)).mono ?_
  rintro e w6 ⟨rfl, hb⟩
  rw [al10_a.1]
  have H6 := Lib.hid (H5.out.grown hb)
  clear hb H5
  go_wp2_with fail
  refine (pLen_any _ _ _ H6.out.1 al10_m.1 (by decide)).mono ?_
  rintro e w7 ⟨rfl, hb⟩
  rw [al10_a.2.1]
  have H7 := Lib.hid (H6.out.grown hb)
  clear hb H6
  go_wp2_with fail
  refine (pReq_any _ _ _ H7.out.2.1 al10_m.2.1 (by decide)).mono ?_
  rintro e w8 ⟨rfl, hb⟩
  rw [al10_a.2.2.1]
  have H8 := Lib.hid (H7.out.grown hb)
  clear hb H7
  go_wp2_with fail
  refine (pReq_any _ _ _ H8.out.2.2.2.1 al10_m.2.2.1 (by decide)).mono ?_
  rintro e w9 ⟨rfl, hb⟩
  rw [al10_a.2.2.2.1]
  have H9 := Lib.hid (H8.out.grown hb)
  clear hb H8
  go_wp2_with fail
  refine (pTrail_any _ _ _ H9.out.2.2.1 (al10_m.1.drop 3) (by decide)).mono ?_
  rintro e w10 ⟨rfl, hb⟩
  rw [al10_a.2.2.2.2.1]
  have H10 := Lib.hid (H9.out.grown hb)
  clear hb H9
  go_wp2_with fail
  refine (pTrail_any _ _ _ H10.out.1 al10_m.1 (by decide)).mono ?_
  rintro e w11 ⟨rfl, hb⟩
  rw [al10_a.2.2.2.2.2.1]
  have H11 := Lib.hid (H10.out.grown hb)
  clear hb H10
  go_wp2_with fail
  have H12 := Lib.hid (H11.out.2.2.2.2.alloc H11.out.2.2.2.2.size (.cells (fcs alD).toArray 29))
  clear H11
  refine (pResp_any _ alD _ (rowF_lit w11 alD 0 (Nat.zero_le _) (by decide) _ rfl 1 rfl).toSl al10_m.2.2.2.1 (by decide)).mono ?_
  rintro e w12 ⟨rfl, hb⟩
  rw [al10_a.2.2.2.2.2.2.1]
  have H13 := Lib.hid (H12.out.trans (hb.mono H12.out.size))
  clear hb H12
  go_wp2_with fail
  have H14 := Lib.hid (H13.out.alloc H13.out.size (.cells (fcs alE).toArray 29))
  clear H13
  refine (pResp_any _ alE _ (rowF_lit w12 alE 0 (Nat.zero_le _) (by decide) _ rfl 1 rfl).toSl al10_m.2.2.2.2.1 (by decide)).mono ?_
  rintro e w13 ⟨rfl, hb⟩
  rw [al10_a.2.2.2.2.2.2.2.1]
  have H15 := Lib.hid (H14.out.trans (hb.mono H14.out.size))
  clear hb H14
  go_wp2_with fail
  refine (pName_any (tx [120, 45, 121]) _ (by decide)).mono ?_
  rintro e w14 ⟨rfl, hb⟩
  rw [al10_b.1]
  have H16 := Lib.hid (H15.out.trans (hb.mono H15.out.size))
  clear hb H15
  go_wp2_with fail
  refine (pName_any (tx [88]) _ (by decide)).mono ?_
  rintro e w15 ⟨rfl, hb⟩
  rw [al10_b.2.1]
  have H17 := Lib.hid (H16.out.trans (hb.mono H16.out.size))
  clear hb H16
  go_wp2_with fail
  refine (pValue_any (tx [97, 32, 98]) _ (by decide)).mono ?_
  rintro e w16 ⟨rfl, hb⟩
  rw [al10_b.2.2.1]
  have H18 := Lib.hid (H17.out.trans (hb.mono H17.out.size))
  clear hb H17
  go_wp2_with fail
  refine (pValue_any (tx [32, 97]) _ (by decide)).mono ?_
  rintro e w17 ⟨rfl, hb⟩
  rw [al10_b.2.2.2]
  have H19 := Lib.hid (H18.out.trans (hb.mono H18.out.size))
  clear hb H18
  go_wp2_with fail
  refine (get10_any _).mono ?_
  rintro e w18 ⟨v18, rfl, hr, hb⟩
  have H20 := Lib.hid (And.intro hr.toSl (H19.out.trans (hb.mono H19.out.size)))
  clear hr hb H19
  go_wp2_with fail
  refine (pLen_any _ _ _ H20.out.1 al10_m.2.2.2.2.2 (by decide)).mono ?_
  rintro e w19 ⟨rfl, hb⟩
  rw [al10_a.2.2.2.2.2.2.2.2]
  have H21 := Lib.hid (H20.out.2.trans (hb.mono H20.out.2.size))
  clear hb H20
  go_wp2_with fail
  go_ret
  exact ⟨rfl, H21.out⟩
end Go.Proofs.Ytabonhiolcjnnaa
