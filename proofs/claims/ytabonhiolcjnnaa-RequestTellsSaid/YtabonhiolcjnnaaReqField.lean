
/-
  Layer 10's reference: ordinary.
-/
import Derived.Test.YtabonhiolcjnnaaReqText
import Derived.Test.YtabonhiolcjnnaaFld
namespace Go.Proofs.Ytabonhiolcjnnaa
set_option maxRecDepth 20000
open Go.RowKit

set_option maxHeartbeats 2000000 in
theorem refOrd_any (n v : ByteArray) (w : World) (hn : n.size ≤ 1000000) (hv : v.size ≤ 1000000) :
    Calls Try.prog 28 #[fldV n v] w fun e w' => e = .returned (.bool (ordF (n, v))) ∧ Below w.heap.size w w' := by
  unfold fldV
  have HN := Lib.hid hn
  have HV := Lib.hid hv
  have hf := FldAt.new w n v
  have hb := Lib.hid ((Below.refl w.heap.size w).alloc (Nat.le_refl _) (.cells #[.string n, .string v] 29))
  have c0 := hf.c0
  have c1 := hf.c1
  have hsz := hf.lt
  obtain ⟨t, ht⟩ : ∃ t, tokB true (nums n) = t := ⟨_, rfl⟩
  obtain ⟨u, hu⟩ : ∃ t, valB (nums v) = t := ⟨_, rfl⟩
  have HO := Lib.hid (show ordF (n, v) = ((t && u) && (!badB n && (bif eqB n nTe then eqB v nTrail else bif eqB n nLen then decide (0 ≤ numB (nums v)) else true))) by unfold ordF; rw [ht, hu])
  have HT := Lib.hid ht
  have HU := Lib.hid hu
  clear hn hv hf ht hu
  go_enter Try.func28, Try.ntmps28
  go_wp2_with fail
  refine (refName_any _ _ HN.out).mono ?_
  rintro e w1 ⟨rfl, rfl⟩
  rw [HT.out]
  go_wp2_with fail
  refine (refValue_any _ _ HV.out).mono ?_
  rintro e w1 ⟨rfl, rfl⟩
  rw [HU.out]
  cases t
  · go_wp2_with fail
    go_ret
    exact ⟨by rw [HO.out]; rfl, hb.out⟩
  cases u
  · go_wp2_with fail
    go_ret
    exact ⟨by rw [HO.out]; rfl, hb.out⟩
  simp only [badB, eqB, nConn, nKeep, nProxy, nTrans, nUpgr, nTe, nTrail, nLen, tx, ByteArray.toList_mk, Bool.true_and] at HO
  obtain ⟨b1, e1⟩ : ∃ b, (n.toList == [99, 111, 110, 110, 101, 99, 116, 105, 111, 110]) = b := ⟨_, rfl⟩
  obtain ⟨b2, e2⟩ : ∃ b, (n.toList == [107, 101, 101, 112, 45, 97, 108, 105, 118, 101]) = b := ⟨_, rfl⟩
  obtain ⟨b3, e3⟩ : ∃ b, (n.toList == [112, 114, 111, 120, 121, 45, 99, 111, 110, 110, 101, 99, 116, 105, 111, 110]) = b := ⟨_, rfl⟩
  obtain ⟨b4, e4⟩ : ∃ b, (n.toList == [116, 114, 97, 110, 115, 102, 101, 114, 45, 101, 110, 99, 111, 100, 105, 110, 103]) = b := ⟨_, rfl⟩
  obtain ⟨b5, e5⟩ : ∃ b, (n.toList == [117, 112, 103, 114, 97, 100, 101]) = b := ⟨_, rfl⟩
  obtain ⟨b6, e6⟩ : ∃ b, (n.toList == [116, 101]) = b := ⟨_, rfl⟩
  obtain ⟨b7, e7⟩ : ∃ b, (n.toList == [99, 111, 110, 116, 101, 110, 116, 45, 108, 101, 110, 103, 116, 104]) = b := ⟨_, rfl⟩
  rw [e1, e2, e3, e4, e5, e6, e7] at HO
  cases b1
  · cases b2
    · cases b3
      · cases b4
        · cases b5
          · cases b6
            · cases b7
              · go_wp2_with fail
                go_ret
                exact ⟨by rw [HO.out]; rfl, hb.out⟩
              · go_wp2_with fail
                refine (refNumber_any _ _ HV.out).mono ?_
                rintro e w1 ⟨rfl, rfl⟩
                go_wp2_with fail
                go_ret
                exact ⟨by rw [HO.out]; rfl, hb.out⟩
            · go_wp2_with fail
              go_ret
              exact ⟨by rw [HO.out]; rfl, hb.out⟩
          · go_wp2_with fail
            go_ret
            exact ⟨by rw [HO.out]; rfl, hb.out⟩
        · go_wp2_with fail
          go_ret
          exact ⟨by rw [HO.out]; rfl, hb.out⟩
      · go_wp2_with fail
        go_ret
        exact ⟨by rw [HO.out]; rfl, hb.out⟩
    · go_wp2_with fail
      go_ret
      exact ⟨by rw [HO.out]; rfl, hb.out⟩
  · go_wp2_with fail
    go_ret
    exact ⟨by rw [HO.out]; rfl, hb.out⟩
end Go.Proofs.Ytabonhiolcjnnaa
