
/-
  Layer 10, the program's own: ahead; what it calls of the library.
-/
import Derived.Test.YtabonhiolcjnnaaReqMap
namespace Go.Proofs.Ytabonhiolcjnnaa
set_option maxRecDepth 20000
open Go.RowKit Go.Maps

theorem col_ext (n : ByteArray) (h : 0 < n.size) : ((n.extract 0 1).toList == [58]) = (at0 (nums n) 0 == 58) := by
  have e : (n.extract 0 1).toList = [n[0]'h] := by
    rw [Lib.toList_data, ByteArray.data_extract, Array.toList_extract]
    have hl : 0 < n.data.toList.length := h
    rw [List.extract_eq_take_drop]
    cases hd : n.data.toList with
    | nil => rw [hd] at hl; simp at hl
    | cons x r =>
      simp only [List.drop_zero, Nat.sub_zero, List.take_succ_cons, List.take_zero]
      congr 1
      have : n.data.toList[0]'hl = x := by simp [hd]
      rw [← this]
      rfl
  rw [e, get_num' h, Bool.eq_iff_iff, beq_iff_eq, beq_iff_eq]
  constructor
  · intro q
    injection q with q
    rw [q]; rfl
  · intro q
    have : (n[0]'h).toNat = 58 := by omega
    congr 1
    exact UInt8.toNat_inj.1 this
set_option maxHeartbeats 1000000 in
theorem litePref_any (n : ByteArray) (x : ByteArray) (w : World) (hs : n.size ≤ 1000000) :
    Calls Try.prog 38 #[.string n, .string ⟨#[58]⟩] w fun e w' => e = .returned (.bool (colB (n, x))) ∧ w' = w := by
  have HS := Lib.hid hs
  by_cases h0 : 0 < n.size
  · have HC := Lib.hid (show colB (n, x) = ((n.extract 0 1).toList == [58]) by
      rw [col_ext n h0]; unfold colB; rw [decide_eq_true h0]; rfl)
    have hn1 : (1 : Int) ≤ n.size := by omega
    have d1 : decide ((1 : Int) ≤ n.size) = true := decide_eq_true hn1
    clear hs h0
    go_enter Try.func38, Try.ntmps38
    go_wp2_with fail
    go_ret
    exact ⟨by rw [HC.out]; rfl, rfl⟩
  · have HC := Lib.hid (show colB (n, x) = false by unfold colB; rw [decide_eq_false h0]; rfl)
    have hn1 : ¬ (1 : Int) ≤ n.size := by omega
    have d1 : decide ((1 : Int) ≤ n.size) = false := decide_eq_false hn1
    clear hs h0
    go_enter Try.func38, Try.ntmps38
    go_wp2_with fail
    go_ret
    exact ⟨by rw [HC.out]; rfl, rfl⟩
theorem hasPref_any (n : ByteArray) (x : ByteArray) (w : World) (hs : n.size ≤ 1000000) :
    Calls Try.prog 34 #[.string n, .string ⟨#[58]⟩] w fun e w' => e = .returned (.bool (colB (n, x))) ∧ w' = w := by
  have HS := Lib.hid hs
  clear hs
  go_enter Try.func34, Try.ntmps34
  go_wp2_with fail
  refine (litePref_any _ x _ HS.out).mono ?_
  rintro e w1 ⟨rfl, rfl⟩
  go_wp2_with fail
  go_ret
  exact ⟨rfl, rfl⟩
set_option maxHeartbeats 1000000 in
theorem sIndex_any (v : Value) (ks : List ByteArray) (x : ByteArray) (w : World) (h : SlS w v ks) (hk : ks.length ≤ 10) :
    Calls Try.prog 39 #[v, .string x] w fun e w' => (∃ n : Int, e = .returned (.int .i64 n) ∧ decide (0 ≤ n) = inK ks x) ∧ w' = w := by
  obtain ⟨b, off, cap, rfl, hbl, hcell⟩ := h
  obtain ⟨N, hN⟩ : ∃ N, N = ks.length := ⟨_, rfl⟩
  rw [← hN] at hk ⊢
  have HN := Lib.hid hN
  have HC := Lib.hid hcell
  clear hN hcell
  go_enter Try.func39, Try.ntmps39
  go_wp2_with fail
  go_loopg [5, 8] N (fun g _ s8 wr => ∃ k : Nat, k + g = N ∧ s8 = .int .i64 k ∧ Hid (inK (ks.take k) x = false) ∧ wr = w)
  case atStart => exact ⟨0, by omega, rfl, Lib.hid rfl, rfl⟩
  case round =>
    obtain ⟨k, hkg, rfl, HT, rfl⟩ := hrel
    have HKG := Lib.hid hkg
    have hkN : k ≤ N := by omega
    clear hkg
    by_cases hlt : k < N
    · obtain ⟨y, hy⟩ : ∃ y, ks[k]? = some y := ⟨_, List.getElem?_eq_getElem (by rw [← HN.out]; exact hlt)⟩
      have c0 := HC.out k y hy
      have hi := run_index_sl (P := Try.prog) (t := 45) (s := 1) (by kernel_rfl) (fun _ => by kernel_rfl) b off N cap k hlt
      rw [Nat.mul_one] at hi
      have hsn : inK (ks.take (k + 1)) x = (inK (ks.take k) x || eqB x y) := by
        unfold inK; rw [List.take_add_one, hy]; simp
      have HY : Hid (eqB x y = false → inK (ks.take (k + 1)) x = false) := Lib.hid fun q => by rw [hsn, HT.out, q]; rfl
      have HZ : Hid (eqB x y = true → inK ks x = true) := Lib.hid fun q => inK_iff.2 (by rw [eqB_iff.1 q]; exact List.mem_of_getElem? hy)
      obtain ⟨t, ht⟩ : ∃ t, eqB x y = t := ⟨_, rfl⟩
      rw [ht] at HY HZ
      simp only [eqB] at ht
      clear hsn hy
      cases t
      · go_wp2_with fail
        go_roundg (N - (k + 1))
        case measure => have := HKG.out; omega
        case rel => exact ⟨k + 1, by omega, by go_num, HY.out (by trivial), rfl⟩
      · go_wp2_with fail
        go_ret
        exact ⟨⟨_, rfl, by rw [HZ.out (by trivial)]; exact decide_eq_true (by omega)⟩, rfl⟩
    · obtain rfl : k = N := by omega
      have HE := Lib.hid (show inK ks x = false by have := HT.out; rwa [List.take_of_length_le (by rw [HN.out]; exact Nat.le_refl _)] at this)
      clear hlt hkN
      go_wp2_with fail
      go_ret
      exact ⟨⟨_, rfl, by rw [HE.out]; rfl⟩, rfl⟩
theorem sContains_any (v : Value) (ks : List ByteArray) (x : ByteArray) (w : World) (h : SlS w v ks) (hk : ks.length ≤ 10) :
    Calls Try.prog 35 #[v, .string x] w fun e w' => e = .returned (.bool (inK ks x)) ∧ w' = w := by
  have HH := Lib.hid h
  have HK := Lib.hid hk
  obtain ⟨b, off, cap, rfl, _⟩ := h
  clear hk
  go_enter Try.func35, Try.ntmps35
  go_wp2_with fail
  refine (sIndex_any _ ks x _ HH.out HK.out).mono ?_
  rintro e w1 ⟨⟨n, rfl, hn⟩, rfl⟩
  have HN := Lib.hid hn
  clear hn
  go_wp2_with fail
  go_ret
  exact ⟨by rw [← HN.out]; rfl, rfl⟩
theorem headN_lt {l : List Fd} {k : Nat} {f : Fd} (h : k ≤ headN l) (hf : l[k]? = some f) (hc : colB f = true) : k + 1 ≤ headN l := by
  by_cases e : k = headN l
  · have := (headN_go h).1 e f hf
    rw [hc] at this; cases this
  · omega
theorem headN_eq {l : List Fd} {k : Nat} {f : Fd} (h : k ≤ headN l) (hf : l[k]? = some f) (hc : colB f = false) : k = headN l :=
  (headN_go h).2 fun g hg => by rw [hf] at hg; injection hg with hg; rw [← hg]; exact hc
theorem headN_end {l : List Fd} {k : Nat} (h : k ≤ headN l) (hf : k = l.length) : k = headN l :=
  Nat.le_antisymm h (by rw [hf]; exact headN_le l)
theorem OkH.take_le {ks : List ByteArray} {l : List Fd} {k n : Nat} (h : OkH ks (l.take n)) (hk : k ≤ n) : OkH ks (l.take k) := by
  have e := (List.take_append_drop k (l.take n)).symm
  rw [List.take_take, Nat.min_eq_left hk] at e
  rw [e] at h
  exact h.left
/-- what ahead hands back -/
def AhR (ks : List ByteArray) (fs : List Fd) (e : Ending) (w' : World) : Prop :=
  (¬ OkH ks (fs.take (headN fs)) ∧ e = .returned (.tuple #[.map none, .slice none 0 0, .bool false])) ∨
  (OkH ks (fs.take (headN fs)) ∧ ∃ b v, e = .returned (.tuple #[.map (some b), v, .bool true]) ∧ SMap w' b (headN fs) (fs.take (headN fs)) ∧ SlD w' v (fs.drop (headN fs)))
set_option maxHeartbeats 4000000 in
theorem ahead_any (v vk : Value) (fs : List Fd) (ks : List ByteArray) (w : World) (h : SlD w v fs) (hs : SlS w vk ks) (hk : ks.length ≤ 10) (hm : Mild fs) (hl : fs.length ≤ 1000) :
    Calls Try.prog 23 #[v, vk] w fun e w' => AhR ks fs e w' ∧ Below w.heap.size w w' := by
  have HV := Lib.hid h
  have HS := Lib.hid hs
  have HK := Lib.hid hk
  obtain ⟨a, c, rfl, hc1, hc2⟩ := h.shape
  unfold maxLen at hc2
  obtain ⟨N, hN⟩ : ∃ N, N = fs.length := ⟨_, rfl⟩
  rw [← hN] at h hc1 HV hl ⊢
  have HN := Lib.hid hN
  have HM := Lib.hid hm
  obtain ⟨kb, ko, kc, rfl, _⟩ := hs
  have hmm := @run_makeMap Try.prog
  have hB0 := (Below.refl w.heap.size w).alloc (Nat.le_refl _) (.map #[] 0)
  have hown0 : SMap (w.alloc (.map #[] 0)) w.heap.size 0 [] := World.ownsMap_made w Try.prog 9 (plainElem (H := Unit) Try.prog 9)
  have HB0 := Lib.hid hB0
  have HO0 := Lib.hid hown0
  clear hN hm hk hB0 hown0
  go_enter Try.func23, Try.ntmps23
  go_wp2_with fail
  go_step3
  go_wp2_with fail
  go_step3
  go_wp2_with fail
  clear hmm
  go_loopg [15] N (fun q s15 wr => ∃ k : Nat, k + q = N ∧ s15 = .int .i64 k ∧ Hid (k ≤ headN fs) ∧ Hid (OkH ks (fs.take k)) ∧ Hid (SMap wr w.heap.size k (fs.take k)) ∧ Hid (Below w.heap.size w wr))
  case atStart => exact ⟨0, by omega, rfl, Lib.hid (Nat.zero_le _), Lib.hid (OkH.nil _), HO0, HB0⟩
  case round =>
    obtain ⟨k, hkq, rfl, HI, HO, HP, HB⟩ := hrel
    have HKQ := Lib.hid hkq
    have hk : k ≤ N := by omega
    clear hkq HB0 HO0
    by_cases hlt : k < N
    · obtain ⟨f, hf⟩ := fld_at (fs := fs) (k := k) (by rw [← HN.out]; exact hlt)
      obtain ⟨b, off, rfl, hbl, hcell⟩ := h.at_ (i := k) (by rw [← HN.out]; exact hlt)
      have hcell0 := hcell f hf
      obtain ⟨c0, c1⟩ := And.intro ((HB.out.cell (p := ⟨b, off + k * 2, none⟩) hbl).trans hcell0.1) ((HB.out.cell (p := ⟨b, off + k * 2 + 1, none⟩) hbl).trans hcell0.2)
      have HZ := Lib.hid (HM.out.at_ hf)
      have HF := Lib.hid hf
      have hA := (Below.refl wr.heap.size wr).alloc (Nat.le_refl _) (.cells #[.string f.1, .string f.2] 29)
      have hlk := (HP.out.below hA).look_ok f.1 (by have := HZ.out.1; unfold maxLen; omega)
      have HPa := Lib.hid (HP.out.below hA)
      clear hcell hcell0 hf hA
      have HFa := Lib.hid (FldAt.new wr f.1 f.2)
      have HBa := Lib.hid (HB.out.trans ((Below.refl wr.heap.size wr).alloc (Nat.le_refl _) (.cells #[.string f.1, .string f.2] 29) |>.mono HB.out.size))
      obtain ⟨p0, e0⟩ : ∃ p, colB f = p := ⟨_, rfl⟩
      obtain ⟨p1, e1⟩ : ∃ p, decide (0 < cntK f.1 (fs.take k)) = p := ⟨_, rfl⟩
      obtain ⟨p2, e2⟩ : ∃ p, inK ks f.1 = p := ⟨_, rfl⟩
      obtain ⟨p3, e3⟩ : ∃ p, valB (nums f.2) = p := ⟨_, rfl⟩
      rw [e1] at hlk
      have HE0 := Lib.hid e0
      have HE2 := Lib.hid e2
      have HE3 := Lib.hid e3
      have HNO : Hid (p0 = true → ¬ (p1 = false ∧ p2 = true ∧ p3 = true) → ¬ OkH ks (fs.take (headN fs))) := Lib.hid fun q0 q ho => by
        have := OkH.take_le ho (headN_lt HI.out HF.out (by rw [e0, q0]))
        rw [take_at HF.out] at this
        obtain ⟨_, h2, h3, h4⟩ := OkH.snoc.1 this
        exact q ⟨by rw [← e1, h2]; rfl, by rw [← e2]; exact h3, by rw [← e3]; exact h4⟩
      have HGO : Hid (p0 = true → p1 = false → p2 = true → p3 = true → k + 1 ≤ headN fs ∧ OkH ks (fs.take (k + 1))) := Lib.hid fun q0 q1 q2 q3 => by
        refine ⟨headN_lt HI.out HF.out (by rw [e0, q0]), ?_⟩
        rw [take_at HF.out]
        refine OkH.snoc.2 ⟨HO.out, ?_, by rw [e2, q2], by rw [e3, q3]⟩
        have := of_decide_eq_false (e1.trans q1)
        omega
      have HEQ : Hid (p0 = false → k = headN fs) := Lib.hid fun q0 => headN_eq HI.out HF.out (by rw [e0, q0])
      have hsz := HFa.out.lt
      have d0 := HFa.out.c0
      have d1 := HFa.out.c1
      have hsz2 : wr.heap.size < wr.heap.size + 1 := Nat.lt_succ_self _
      clear e0 e1 e2 e3
      go_wp2_with fail
      refine (hasPref_any f.1 f.2 _ HZ.out.1).mono ?_
      rintro e w1 ⟨rfl, rfl⟩
      rw [show (f.1, f.2) = f from rfl, HE0.out]
      cases p0
      · have hkn := HEQ.out rfl
        obtain ⟨v2, hv2, hs2⟩ := SlD.from_ (P := Try.prog) (t := 22) slcFd (fun _ => by kernel_rfl) (h.below HBa.out) k (by rw [← HN.out]; exact hk)
        have hlen : ∀ n, (Builtin.len_ #[33] 3 #[.map (some w.heap.size)]).run Try.prog ((wr.alloc (.cells #[.string f.1, .string f.2] 29)).drewN n) = .ok (.int .i64 k) ((wr.alloc (.cells #[.string f.1, .string f.2] 29)).drewN n) := fun n => by
          have := (HPa.out.below (below_drewN (Below.refl _ _) n)).len HO.out
          rwa [List.length_take, ← HN.out, Nat.min_eq_left hk] at this
        have HX := Lib.hid (And.intro HO.out HPa.out)
        have HS2 := Lib.hid hs2
        rw [hkn] at HX HS2
        clear hs2 hkn
        go_wp2_with fail
        go_quiet (fail)
        go_wp2_with fail
        rw [Exit.noGoto_ret]
        go_ret3
        exact ⟨.inr ⟨HX.out.1, _, _, rfl, HX.out.2.below (below_drewN (Below.refl _ _) _), HS2.out.drewN _⟩, below_drewN HBa.out _⟩
      · clear HEQ
        cases p1
        · go_wp2_with fail
          refine (sContains_any _ ks f.1 _ (HS.out.below HBa.out) HK.out).mono ?_
          rintro e w1 ⟨rfl, rfl⟩
          rw [HE2.out]
          cases p2
          · go_wp2_with fail
            rw [Exit.noGoto_ret]
            go_ret3
            exact ⟨.inl ⟨HNO.out (by trivial) (fun q => by cases q.2.1), rfl⟩, HBa.out⟩
          · go_wp2_with fail
            refine (pValue_any f.2 _ HZ.out.2).mono ?_
            rintro e w2 ⟨rfl, hb2⟩
            rw [HE3.out]
            have HB2 := Lib.hid (HBa.out.trans (hb2.mono HBa.out.size))
            have HF2 := Lib.hid (HFa.out.grown hb2)
            have HP2 := Lib.hid (HPa.out.below hb2)
            clear hb2 d0 d1 hsz hsz2 hlk c0 c1
            have d0 := HF2.out.c0
            have d1 := HF2.out.c1
            have hsz := HF2.out.lt
            cases p3
            · go_wp2_with fail
              rw [Exit.noGoto_ret]
              go_ret3
              exact ⟨.inl ⟨HNO.out (by trivial) (fun q => by cases q.2.2), rfl⟩, HB2.out⟩
            · go_wp2_with (at_mapUpdate; refine wpList_mapUpdate_own _ rfl (.tmp 42) (.tmp 44) (.tmp 46) 33 rfl 9 9 Try.skeyed Try.smapUnder _ w.heap.size k _ rfl HP2.out (by unfold maxLen; omega) (.string f.1) (.string f.2) (.string f.1.data.toList) rfl rfl (WideMaps.keyOf_string_mk Try.underlying9 (by have := HZ.out.1; unfold maxLen; omega)) (.lit (.string f.2.data.toList)) [] (plainElem_string Try.underlying9 (by have := HZ.out.2; unfold maxLen; omega)) ?_; intro w3 hown3 hgrow3)
              go_roundg (N - (k + 1))
              case measure => have := HKQ.out; omega
              case rel =>
                have hgo := HGO.out (by trivial) (by trivial) (by trivial) (by trivial)
                refine ⟨k + 1, by omega, by go_num, hgo.1, hgo.2, ?_, HB2.out.grown hgrow3 HB2.out.size (fun j hj => by cases hj; exact Nat.le_refl _)⟩
                have hx := hown3
                rw [← mapD_snoc, ← take_at HF.out] at hx
                exact hx
        · go_wp2_with fail
          rw [Exit.noGoto_ret]
          go_ret3
          exact ⟨.inl ⟨HNO.out (by trivial) (fun q => by cases q.1), rfl⟩, HBa.out⟩
    · obtain rfl : k = N := by omega
      have hkn := headN_end HI.out HN.out
      obtain ⟨v2, hv2, hs2⟩ := SlD.from_ (P := Try.prog) (t := 22) slcFd (fun _ => by kernel_rfl) (h.below HB.out) k (by rw [← HN.out]; exact Nat.le_refl _)
      have hlen : ∀ n, (Builtin.len_ #[33] 3 #[.map (some w.heap.size)]).run Try.prog (wr.drewN n) = .ok (.int .i64 k) (wr.drewN n) := fun n => by
        have := (HP.out.below (below_drewN (Below.refl _ _) n)).len HO.out
        rwa [List.length_take, ← HN.out, Nat.min_self] at this
      have HX := Lib.hid (And.intro HO.out HP.out)
      have HS2 := Lib.hid hs2
      rw [hkn] at HX HS2
      clear hs2 hkn hlt hk
      go_wp2_with fail
      go_quiet (fail)
      go_wp2_with fail
      rw [Exit.noGoto_ret]
      go_ret3
      exact ⟨.inr ⟨HX.out.1, _, _, rfl, HX.out.2.below (below_drewN (Below.refl _ _) _), HS2.out.drewN _⟩, below_drewN HB.out _⟩
end Go.Proofs.Ytabonhiolcjnnaa
