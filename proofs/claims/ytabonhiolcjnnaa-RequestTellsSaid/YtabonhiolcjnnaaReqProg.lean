
/-
  Layer 10: the program's own six functions.
-/
import Derived.Test.YtabonhiolcjnnaaReqAhead
import Derived.Test.YtabonhiolcjnnaaReqResp
namespace Go.Proofs.Ytabonhiolcjnnaa
set_option maxRecDepth 20000
open Go.RowKit Go.Maps

theorem cnt_size {h : List Fd} (hm : Mild h) (k : ByteArray) : (getK k h).size ≤ 1000000 := by
  have : (∃ f ∈ h, getK k h = f.2) ∨ getK k h = ⟨#[]⟩ := by
    clear hm
    induction h using snoc_ind with
    | h0 => exact .inr rfl
    | h1 l f ih =>
      rw [getK_snoc]
      cases eqB f.1 k
      · rcases ih with ⟨g, hg, e⟩ | e
        · exact .inl ⟨g, List.mem_append_left _ hg, e⟩
        · exact .inr e
      · exact .inl ⟨f, by simp, rfl⟩
  rcases this with ⟨f, hf, e⟩ | e
  · rw [e]; exact (hm f hf).2
  · rw [e]; exact Nat.zero_le _
set_option maxHeartbeats 2000000 in
theorem isAsked_any (b n : Nat) (h : List Fd) (w : World) (hm : SMap w b n h) (hs : Mild h) :
    Calls Try.prog 24 #[.map (some b)] w fun e w' => e = .returned (.bool (asked h)) ∧ Below w.heap.size w w' := by
  have HM := Lib.hid hm
  have HZ := Lib.hid (cnt_size hs nMeth)
  obtain ⟨me, hme⟩ : ∃ x, getK nMeth h = x := ⟨_, rfl⟩
  obtain ⟨sc, hsc⟩ : ∃ x, getK nSchm h = x := ⟨_, rfl⟩
  obtain ⟨pa, hpa⟩ : ∃ x, getK nPath h = x := ⟨_, rfl⟩
  obtain ⟨au, hau⟩ : ∃ x, getK nAuth h = x := ⟨_, rfl⟩
  obtain ⟨p1, e1⟩ : ∃ x, decide (0 < cntK nSchm h) = x := ⟨_, rfl⟩
  obtain ⟨p2, e2⟩ : ∃ x, decide (0 < cntK nPath h) = x := ⟨_, rfl⟩
  obtain ⟨t, ht⟩ : ∃ t, tokB false (nums me) = t := ⟨_, rfl⟩
  obtain ⟨x1, f1⟩ : ∃ x, (me.toList == [67, 79, 78, 78, 69, 67, 84]) = x := ⟨_, rfl⟩
  obtain ⟨x2, f2⟩ : ∃ x, sc.toList.isEmpty = x := ⟨_, rfl⟩
  have HQ := Lib.hid (show asked h = (t && (bif x1 then (!p1 && !p2) && !au.toList.isEmpty else !x2 && !pa.toList.isEmpty)) by
    unfold asked
    rw [hme, hsc, hpa, hau, e1, e2, ht, eqB_nil, eqB_nil, eqB_nil, f2, ← f1]
    simp only [eqB, vConn, tx, ByteArray.toList_mk])
  have HT := Lib.hid ht
  rw [hme] at HZ
  have l0 : (Instr.lookup 33 (.map (some b)) (.string ⟨#[58, 109, 101, 116, 104, 111, 100]⟩) false).run Try.prog w = .ok (.string me) w := by
    have := hm.look nMeth (by decide); rwa [hme] at this
  have HL : Hid (∀ w', Below w.heap.size w w' →
      (Instr.lookup 33 (.map (some b)) (.string ⟨#[58, 109, 101, 116, 104, 111, 100]⟩) false).run Try.prog w' = .ok (.string me) w' ∧
      (Instr.lookup 33 (.map (some b)) (.string ⟨#[58, 115, 99, 104, 101, 109, 101]⟩) false).run Try.prog w' = .ok (.string sc) w' ∧
      (Instr.lookup 33 (.map (some b)) (.string ⟨#[58, 112, 97, 116, 104]⟩) false).run Try.prog w' = .ok (.string pa) w' ∧
      (Instr.lookup 33 (.map (some b)) (.string ⟨#[58, 97, 117, 116, 104, 111, 114, 105, 116, 121]⟩) false).run Try.prog w' = .ok (.string au) w' ∧
      (Instr.lookup 33 (.map (some b)) (.string ⟨#[58, 115, 99, 104, 101, 109, 101]⟩) true).run Try.prog w' = .ok (.tuple #[.string sc, .bool p1]) w' ∧
      (Instr.lookup 33 (.map (some b)) (.string ⟨#[58, 112, 97, 116, 104]⟩) true).run Try.prog w' = .ok (.tuple #[.string pa, .bool p2]) w') := Lib.hid fun w' hb => by
    have hm' := HM.out.below hb
    have a1 := hm'.look nMeth (by decide)
    have a2 := hm'.look nSchm (by decide)
    have a3 := hm'.look nPath (by decide)
    have a4 := hm'.look nAuth (by decide)
    have a5 := hm'.look_ok nSchm (by decide)
    have a6 := hm'.look_ok nPath (by decide)
    rw [hme] at a1
    rw [hsc] at a2
    rw [hpa] at a3
    rw [hau] at a4
    rw [hsc, e1] at a5
    rw [hpa, e2] at a6
    exact ⟨a1, a2, a3, a4, a5, a6⟩
  clear hm hs hme hsc hpa hau e1 e2 ht HM
  go_enter Try.func24, Try.ntmps24
  go_wp2_with fail
  refine (isToken_any me _ HZ.out).mono ?_
  rintro e w1 ⟨rfl, hb⟩
  rw [HT.out]
  have HB := Lib.hid hb
  obtain ⟨a1, a2, a3, a4, a5, a6⟩ := HL.out w1 hb
  clear hb l0
  cases t
  · go_wp2_with fail
    go_ret
    exact ⟨by rw [HQ.out]; rfl, HB.out⟩
  cases x1
  · cases x2
    · go_wp2_with fail
      go_ret
      exact ⟨by rw [HQ.out]; rfl, HB.out⟩
    · go_wp2_with fail
      go_ret
      exact ⟨by rw [HQ.out]; rfl, HB.out⟩
  · cases p1
    · cases p2
      · go_wp2_with fail
        go_ret
        exact ⟨by rw [HQ.out]; rfl, HB.out⟩
      · go_wp2_with fail
        go_ret
        exact ⟨by rw [HQ.out]; rfl, HB.out⟩
    · go_wp2_with fail
      go_ret
      exact ⟨by rw [HQ.out]; rfl, HB.out⟩
theorem Try.bmapUnder : Try.prog.underlying 39 = some (.map 3 4) := by kernel_rfl
theorem Try.ikeyed : Keyed Try.prog 3 := int_keyed Try.underlying3
/-- what the map of lengths says of those that came -/
def TrS (l : List Fd) (D : DataW Unit) : Prop :=
  (D = .map [] ∧ ∀ f ∈ l, eqB f.1 nLen = false) ∨
  ∃ n, Tidy D ∧ Maps.size D = 1 ∧ (∀ k, Maps.has D (.int .i64 k) = decide (k = n)) ∧ (∃ f ∈ l, eqB f.1 nLen = true ∧ numB (nums f.2) = n) ∧ ∀ f ∈ l, eqB f.1 nLen = true → numB (nums f.2) = n
theorem TrS.skip {l : List Fd} {D : DataW Unit} {f : Fd} (h : TrS l D) (hf : eqB f.1 nLen = false) : TrS (l ++ [f]) D := by
  rcases h with ⟨h1, h2⟩ | ⟨n, h1, h2, h3, ⟨g, hg, h4⟩, h5⟩
  · refine .inl ⟨h1, fun g hg => ?_⟩
    rcases List.mem_append.1 hg with hg | hg
    · exact h2 g hg
    · rw [List.mem_singleton] at hg; rw [hg]; exact hf
  · refine .inr ⟨n, h1, h2, h3, ⟨g, List.mem_append_left _ hg, h4⟩, fun x hx => ?_⟩
    rcases List.mem_append.1 hx with hx | hx
    · exact h5 x hx
    · rw [List.mem_singleton] at hx; rw [hx, hf]; intro q; cases q
theorem int_key (a : Int) : WideAt.IsKeyLit (Lit.int .i64 a) := by unfold WideAt.IsKeyLit; trivial
theorem int_ne {a b : Int} (h : a ≠ b) : Lit.int .i64 a ≠ Lit.int .i64 b := fun e => h (by injection e)
theorem TrS.put {l : List Fd} {D : DataW Unit} {f : Fd} (h : TrS l D) (hf : eqB f.1 nLen = true) :
    (Maps.size (D.put (.int .i64 (numB (nums f.2))) (.lit (.bool true))) = 1 ∧ TrS (l ++ [f]) (D.put (.int .i64 (numB (nums f.2))) (.lit (.bool true)))) ∨
    (Maps.size (D.put (.int .i64 (numB (nums f.2))) (.lit (.bool true))) = 2 ∧ ∃ g ∈ l, agree2 f g = false) := by
  have hhas : ∀ (E : DataW Unit) (hE : IsMap E) (k m : Int), Maps.has (E.put (.int .i64 m) (.lit (.bool true))) (.int .i64 k) = (decide (k = m) || Maps.has E (.int .i64 k)) := fun E hE k m => by
    by_cases e : k = m
    · subst e; rw [has_put_same hE (int_key _), decide_eq_true rfl]; rfl
    · rw [has_put_other (int_ne e), decide_eq_false e]; rfl
  rcases h with ⟨rfl, h2⟩ | ⟨n, h1, h2, h3, ⟨g, hg, h4, h6⟩, h5⟩
  · refine .inl ⟨by rw [size_put tidy_empty]; rfl, .inr ⟨numB (nums f.2), tidy_empty.put (int_key _) _, by rw [size_put tidy_empty]; rfl, fun k => ?_, ⟨f, by simp, hf, rfl⟩, fun x hx hx2 => ?_⟩⟩
    · rw [hhas _ isMap_empty]
      show (_ || false) = _
      rw [Bool.or_false]
    · rcases List.mem_append.1 hx with hx | hx
      · rw [h2 x hx] at hx2; cases hx2
      · rw [List.mem_singleton] at hx; rw [hx]
  · by_cases e : numB (nums f.2) = n
    · have hs : Maps.size (D.put (.int .i64 (numB (nums f.2))) (.lit (.bool true))) = 1 := by rw [size_put h1, h3, decide_eq_true e, h2]; rfl
      refine .inl ⟨hs, .inr ⟨n, h1.put (int_key _) _, hs, fun k => ?_, ⟨g, List.mem_append_left _ hg, h4, h6⟩, fun x hx hx2 => ?_⟩⟩
      · rw [hhas _ h1.isMap, h3, e, Bool.or_self]
      · rcases List.mem_append.1 hx with hx | hx
        · exact h5 x hx hx2
        · rw [List.mem_singleton] at hx; rw [hx]; exact e
    · refine .inr ⟨by rw [size_put h1, h3, decide_eq_false e, h2]; rfl, g, hg, ?_⟩
      unfold agree2
      rw [hf, h4, h6, show (numB (nums f.2) != n) = true from bne_iff_ne.2 e]
      rfl
theorem TrS.agree {l : List Fd} {D : DataW Unit} (h : TrS l D) : agreeL l := by
  intro f hf g hg
  unfold agree2
  rcases h with ⟨_, h2⟩ | ⟨n, _, _, _, _, h5⟩
  · rw [h2 f hf]; rfl
  · cases e1 : eqB f.1 nLen
    · rfl
    · cases e2 : eqB g.1 nLen
      · rfl
      · rw [h5 f hf e1, h5 g hg e2]; simp
theorem ord_len {f : Fd} (ho : ordF f = true) (hl : eqB f.1 nLen = true) : 0 ≤ numB (nums f.2) := by
  unfold ordF at ho
  rw [hl, show eqB f.1 nTe = false by rw [eqB_iff.1 hl]; decide +kernel] at ho
  simp only [cond_false, cond_true, Bool.and_eq_true, decide_eq_true_iff] at ho
  exact ho.2.2
theorem numB_wf (zs : List Int) : (Lit.int .i64 (numB zs)).wf = true := by
  unfold numB
  split
  · rename_i h
    have h2 := figN_range zs 0 h.2.2 (by omega)
    have hp : (10 : Int) ^ zs.length ≤ 10 ^ 15 := by
      have h : (10 : Nat) ^ zs.length ≤ 10 ^ 15 := Nat.pow_le_pow_right (by decide) h.2.1
      exact_mod_cast h
    exact WalkArith.wf_i64 (by omega)
  · decide
def IMap (w : World) (b n : Nat) (D : DataW Unit) : Prop := w.ownsMap Try.prog 3 (plainElem (H := Unit) Try.prog 4) b n D
theorem IMap.below {w w' : World} {b n : Nat} {D : DataW Unit} (hm : IMap w b n D) (hb : Below w.heap.size w w') : IMap w' b n D := by
  have hl := World.ownsMap.lt hm
  obtain ⟨es, clock, hh, r⟩ := hm
  exact ⟨es, clock, (hb.block b hl).trans hh, r⟩
set_option maxHeartbeats 4000000 in
theorem pTrail_any (v : Value) (fs : List Fd) (w : World) (h : SlD w v fs) (hm : Mild fs) (hl : fs.length ≤ 1000) :
    Calls Try.prog 12 #[v] w fun e w' => e = .returned (.bool (trailB fs)) ∧ Below w.heap.size w w' := by
  obtain ⟨a, c, rfl, hc1, hc2⟩ := h.shape
  unfold maxLen at hc2
  obtain ⟨N, hN⟩ : ∃ N, N = fs.length := ⟨_, rfl⟩
  rw [← hN] at h hc1 hl ⊢
  have HN := Lib.hid hN
  have HM := Lib.hid hm
  have hmm := @run_makeMap Try.prog
  have HB0 := Lib.hid ((Below.refl w.heap.size w).alloc (Nat.le_refl _) (.map #[] 0))
  have HO0 : Hid (IMap (w.alloc (.map #[] 0)) w.heap.size 0 (.map [])) := Lib.hid (World.ownsMap_made w Try.prog 3 (plainElem (H := Unit) Try.prog 4))
  clear hN hm
  go_enter Try.func12, Try.ntmps12
  go_wp2_with fail
  go_step3
  go_wp2_with fail
  go_step3
  go_wp2_with fail
  clear hmm
  go_loopg [11] N (fun q s11 wr => ∃ k : Nat, k + q = N ∧ s11 = .int .i64 k ∧ Hid ((fs.take k).all ordF = true) ∧ (∃ D, Hid (TrS (fs.take k) D) ∧ Hid (IMap wr w.heap.size k D)) ∧ Hid (Below w.heap.size w wr))
  case atStart => exact ⟨0, by omega, rfl, Lib.hid rfl, ⟨_, Lib.hid (.inl ⟨rfl, fun f hf => by rw [List.take_zero] at hf; cases hf⟩), HO0⟩, HB0⟩
  case round =>
    obtain ⟨k, hkq, rfl, HA, ⟨D, HD, HP⟩, HB⟩ := hrel
    have HKQ := Lib.hid hkq
    have hk : k ≤ N := by omega
    clear hkq HB0 HO0
    by_cases hlt : k < N
    · obtain ⟨f, hf⟩ := fld_at (fs := fs) (k := k) (by rw [← HN.out]; exact hlt)
      obtain ⟨b, off, rfl, hbl, hcell⟩ := h.at_ (i := k) (by rw [← HN.out]; exact hlt)
      have hcell0 := hcell f hf
      obtain ⟨c0, c1⟩ := And.intro ((HB.out.cell (p := ⟨b, off + k * 2, none⟩) hbl).trans hcell0.1) ((HB.out.cell (p := ⟨b, off + k * 2 + 1, none⟩) hbl).trans hcell0.2)
      have HZ := Lib.hid (HM.out.at_ hf)
      have HF := Lib.hid hf
      have hA := (Below.refl wr.heap.size wr).alloc (Nat.le_refl _) (.cells #[.string f.1, .string f.2] 29)
      have HFa := Lib.hid (FldAt.new wr f.1 f.2)
      have HBa := Lib.hid (HB.out.trans (hA.mono HB.out.size))
      have HPa := Lib.hid (HP.out.below hA)
      obtain ⟨o, ho⟩ : ∃ o, ordF f = o := ⟨_, rfl⟩
      have HO := Lib.hid ho
      obtain ⟨p1, e1⟩ : ∃ p, eqB f.1 nLen = p := ⟨_, rfl⟩
      have HE := Lib.hid e1
      simp only [eqB, nLen, tx, ByteArray.toList_mk] at e1
      have hsz := HFa.out.lt
      have d0 := HFa.out.c0
      have d1 := HFa.out.c1
      clear hcell hcell0 hf hA ho
      go_wp2_with fail
      refine (pOrd_any _ _ _ HZ.out.1 HZ.out.2).mono ?_
      rintro e w1 ⟨rfl, hb1⟩
      rw [show (f.1, f.2) = f from rfl, HO.out]
      have HB1 := Lib.hid (HBa.out.trans (hb1.mono HBa.out.size))
      have HF1 := Lib.hid (HFa.out.grown hb1)
      have HP1 := Lib.hid (HPa.out.below hb1)
      clear hb1 hsz d0 d1 c0 c1
      have hsz := HF1.out.lt
      have d0 := HF1.out.c0
      have d1 := HF1.out.c1
      cases o
      · go_wp2_with fail
        rw [Exit.noGoto_ret]
        go_ret
        exact ⟨by rw [trailB_ord HF.out HO.out]; rfl, HB1.out⟩
      have HA1 := Lib.hid (show (fs.take (k + 1)).all ordF = true by rw [take_at HF.out, List.all_append, HA.out]; simp [HO.out])
      cases p1
      · have HD1 := Lib.hid (show TrS (fs.take (k + 1)) D by rw [take_at HF.out]; exact HD.out.skip HE.out)
        go_wp2_with fail
        go_roundg (N - (k + 1))
        case measure => have := HKQ.out; omega
        case rel => exact ⟨k + 1, by omega, by go_num, HA1, ⟨D, HD1, World.ownsMap.mono HP1.out (Nat.le_succ _)⟩, HB1⟩
      · have HZ2 := Lib.hid (ord_len HO.out HE.out)
        obtain ⟨m, hm⟩ : ∃ m, numB (nums f.2) = m := ⟨_, rfl⟩
        have HW := Lib.hid (numB_wf (nums f.2))
        have HT := Lib.hid (numB_some hm (by rw [← hm]; exact HZ2.out))
        have HX := Lib.hid (HD.out.put HE.out)
        rw [hm] at HW HX
        clear hm
        go_wp2_with fail
        refine (pNumber_any _ _ HZ.out.2).mono ?_
        rintro e w2 ⟨rfl, hb2⟩
        rw [HT.out]
        have HB2 := Lib.hid (HB1.out.trans (hb2.mono HB1.out.size))
        have HP2 := Lib.hid (HP1.out.below hb2)
        clear hb2 hsz d0 d1
        rcases HX.out with hx | hx
        · have HS := Lib.hid hx
          clear hx
          go_wp2_with (at_mapUpdate; refine wpList_mapUpdate_own _ rfl (.tmp 29) (.tmp 30) (.const (.bool true)) 39 rfl 3 4 Try.ikeyed Try.bmapUnder _ w.heap.size k D rfl HP2.out (by unfold maxLen; omega) (.int .i64 m) (.bool true) (.int .i64 m) rfl rfl (keyOf_int_mk Try.underlying3 HW.out) (.lit (.bool true)) [] (plainElem_bool Try.underlying4 true) ?_; intro w3 hown3 hgrow3; have hlen : (Builtin.len_ #[39] 3 #[.map (some w.heap.size)]).run Try.prog w3 = .ok (.int .i64 1) w3 := by (have := World.ownsMap.len hown3 Try.bmapUnder 3; rw [HS.out.1] at this; exact this))
          go_roundg (N - (k + 1))
          case measure => have := HKQ.out; omega
          case rel =>
            refine ⟨k + 1, by omega, by go_num, HA1, ⟨_, ?_, hown3⟩, HB2.out.grown hgrow3 HB2.out.size (fun j hj => by cases hj; exact Nat.le_refl _)⟩
            rw [take_at HF.out]
            exact HS.out.2
        · have HS := Lib.hid hx
          clear hx
          go_wp2_with (at_mapUpdate; refine wpList_mapUpdate_own _ rfl (.tmp 29) (.tmp 30) (.const (.bool true)) 39 rfl 3 4 Try.ikeyed Try.bmapUnder _ w.heap.size k D rfl HP2.out (by unfold maxLen; omega) (.int .i64 m) (.bool true) (.int .i64 m) rfl rfl (keyOf_int_mk Try.underlying3 HW.out) (.lit (.bool true)) [] (plainElem_bool Try.underlying4 true) ?_; intro w3 hown3 hgrow3; have hlen : (Builtin.len_ #[39] 3 #[.map (some w.heap.size)]).run Try.prog w3 = .ok (.int .i64 2) w3 := by (have := World.ownsMap.len hown3 Try.bmapUnder 3; rw [HS.out.1] at this; exact this))
          rw [Exit.noGoto_ret]
          go_ret
          refine ⟨?_, HB2.out.grown hgrow3 HB2.out.size (fun j hj => by cases hj; exact Nat.le_refl _)⟩
          obtain ⟨g, hg, hag⟩ := HS.out.2
          obtain ⟨j, hj⟩ := List.getElem?_of_mem (List.mem_of_mem_take hg)
          rw [trailB_two HF.out hj hag]; rfl
    · obtain rfl : k = N := by omega
      have HE := Lib.hid (show trailB fs = true by
        have e : fs.take k = fs := List.take_of_length_le (by rw [HN.out]; exact Nat.le_refl _)
        have h1 := HA.out
        have h2 := HD.out.agree
        rw [e] at h1 h2
        unfold trailB
        rw [h1, decide_eq_true h2]; rfl)
      clear hlt hk
      go_wp2_with fail
      rw [Exit.noGoto_ret]
      go_ret
      exact ⟨by rw [HE.out]; rfl, HB.out⟩
set_option maxHeartbeats 1000000 in
theorem pLen_any (v : Value) (fs : List Fd) (w : World) (h : SlD w v fs) (hm : Mild fs) (_ : fs.length ≤ 1000) :
    Calls Try.prog 16 #[v] w fun e w' => e = .returned (.int .i64 (lenL fs)) ∧ Below w.heap.size w w' := by
  obtain ⟨a, c, rfl, hc1, hc2⟩ := h.shape
  unfold maxLen at hc2
  obtain ⟨N, hN⟩ : ∃ N, N = fs.length := ⟨_, rfl⟩
  rw [← hN] at h hc1 ⊢
  have HN := Lib.hid hN
  have HM := Lib.hid hm
  clear hN hm
  go_enter Try.func16, Try.ntmps16
  go_wp2_with fail
  go_step3
  go_wp2_with fail
  go_step3
  go_wp2_with fail
  go_loopg [3, 10] N (fun q s3 s10 wr => ∃ k : Nat, k + q = N ∧ s10 = .int .i64 k ∧ s3 = .int .i64 (-1) ∧ Hid (lenL fs = lenL (fs.drop k)) ∧ Hid (Below w.heap.size w wr))
  case atStart => exact ⟨0, by omega, rfl, rfl, Lib.hid rfl, Lib.hid (Below.refl _ _)⟩
  case round =>
    obtain ⟨k, hkq, rfl, rfl, HL, HB⟩ := hrel
    have HKQ := Lib.hid hkq
    have hk : k ≤ N := by omega
    clear hkq
    by_cases hlt : k < N
    · obtain ⟨f, hf⟩ := fld_at (fs := fs) (k := k) (by rw [← HN.out]; exact hlt)
      obtain ⟨b, off, rfl, hbl, hcell⟩ := h.at_ (i := k) (by rw [← HN.out]; exact hlt)
      have hcell0 := hcell f hf
      obtain ⟨c0, c1⟩ := And.intro ((HB.out.cell (p := ⟨b, off + k * 2, none⟩) hbl).trans hcell0.1) ((HB.out.cell (p := ⟨b, off + k * 2 + 1, none⟩) hbl).trans hcell0.2)
      have HZ := Lib.hid (HM.out.at_ hf).2
      have hA := (Below.refl wr.heap.size wr).alloc (Nat.le_refl _) (.cells #[.string f.1, .string f.2] 29)
      have hFa := FldAt.new wr f.1 f.2
      have HBa := Lib.hid (HB.out.trans (hA.mono HB.out.size))
      have hl := HL.out
      rw [drop_at hf, lenL] at hl
      obtain ⟨e1, he1⟩ : ∃ e1, eqB f.1 nLen = e1 := ⟨_, rfl⟩
      rw [he1] at hl
      have HE := Lib.hid hl
      simp only [eqB, nLen, tx, ByteArray.toList_mk] at he1
      have hsz := hFa.lt
      have d0 := hFa.c0
      have d1 := hFa.c1
      clear hcell hcell0 hf hl hA hFa
      cases e1
      · go_wp2_with fail
        go_roundg (N - (k + 1))
        case measure => have := HKQ.out; omega
        case rel => exact ⟨k + 1, by omega, by go_num, rfl, HE, HBa⟩
      · obtain ⟨z, hz⟩ : ∃ z, decide (0 ≤ numB (nums f.2)) = z := ⟨_, rfl⟩
        have HZZ := Lib.hid (show numT (nums f.2) = .tuple #[.int .i64 (bif z then numB (nums f.2) else 0), .bool z] by unfold numT; rw [hz])
        have HNo : Hid (z = false → numB (nums f.2) = -1) := Lib.hid fun q => by
          have := of_decide_eq_false (hz.trans q)
          unfold numB at this ⊢
          split at this
          · rename_i hc
            have := (figN_range _ 0 hc.2.2 (by omega)).1
            omega
          · rename_i hc
            rw [if_neg hc]
        clear hz
        go_wp2_with fail
        refine (pNumber_any _ _ HZ.out).mono ?_
        rintro e w1 ⟨rfl, hb⟩
        rw [HZZ.out]
        have HB1 := Lib.hid (HBa.out.trans (hb.mono HBa.out.size))
        clear hb hsz d0 d1
        cases z
        · go_wp2_with fail
          rw [Exit.noGoto_ret]
          go_ret
          exact ⟨by rw [HE.out]; simp only [cond_true]; rw [HNo.out (by trivial)]; rfl, HB1.out⟩
        · go_wp2_with fail
          rw [Exit.noGoto_ret]
          go_ret
          exact ⟨by rw [HE.out]; rfl, HB1.out⟩
    · obtain rfl : k = N := by omega
      have HE := Lib.hid (show lenL fs = -1 by rw [HL.out, List.drop_of_length_le (by rw [HN.out]; exact Nat.le_refl _)]; rfl)
      clear hlt hk
      go_wp2_with fail
      rw [Exit.noGoto_ret]
      go_ret
      exact ⟨by rw [HE.out]; rfl, HB.out⟩
theorem strs_lit {w : World} {cs : Array Value} {e : TypeId} {n : Nat} (ks : List ByteArray) (hc : cs = (ks.map Value.string).toArray) (hn : n = ks.length) :
    SlS (w.alloc (.cells cs e)) (.slice (some ⟨w.heap.size, 0, none⟩) n n) ks := by
  subst hc hn
  refine ⟨_, _, _, rfl, by simp, fun i k hi => ?_⟩
  have := heap_alloc_new w (.cells (ks.map Value.string).toArray e)
  simp only [World.cell?]
  rw [this]
  simp [hi]
set_option maxHeartbeats 1000000 in
theorem pReq_any (v : Value) (fs : List Fd) (w : World) (h : SlD w v fs) (hm : Mild fs) (hl : fs.length ≤ 1000) :
    Calls Try.prog 10 #[v] w fun e w' => e = .returned (.bool (reqB fs)) ∧ Below w.heap.size w w' := by
  have HM := Lib.hid hm
  have HL := Lib.hid hl
  have HA := Lib.hid ((Below.refl w.heap.size w).alloc (Nat.le_refl _) (.cells #[.string ⟨#[58, 109, 101, 116, 104, 111, 100]⟩, .string ⟨#[58, 115, 99, 104, 101, 109, 101]⟩, .string ⟨#[58, 112, 97, 116, 104]⟩, .string ⟨#[58, 97, 117, 116, 104, 111, 114, 105, 116, 121]⟩] 9))
  have HS := Lib.hid (strs_lit (w := w) (e := 9) (n := 4) [nMeth, nSchm, nPath, nAuth] (cs := #[.string ⟨#[58, 109, 101, 116, 104, 111, 100]⟩, .string ⟨#[58, 115, 99, 104, 101, 109, 101]⟩, .string ⟨#[58, 112, 97, 116, 104]⟩, .string ⟨#[58, 97, 117, 116, 104, 111, 114, 105, 116, 121]⟩]) rfl rfl)
  have HH := Lib.hid (h.below HA.out)
  obtain ⟨a, c, rfl, hc1, hc2⟩ := h.shape
  clear h hm hl
  go_enter Try.func10, Try.ntmps10
  go_wp2_with fail
  refine (ahead_any _ _ fs [nMeth, nSchm, nPath, nAuth] _ HH.out HS.out (by decide) HM.out HL.out).mono ?_
  rintro e w1 ⟨ha, hb⟩
  have HB := Lib.hid (HA.out.trans (hb.mono HA.out.size))
  clear hb
  rcases ha with ⟨hn, rfl⟩ | ⟨ho, b, v2, rfl, hs, hd⟩
  · have HQ := Lib.hid (reqB_no hn)
    clear hn
    go_wp2_with fail
    go_ret
    exact ⟨by rw [HQ.out]; rfl, HB.out⟩
  · have HSM := Lib.hid hs
    have HD := Lib.hid hd
    obtain ⟨t, ht⟩ : ∃ t, asked (fs.take (headN fs)) = t := ⟨_, rfl⟩
    have HT := Lib.hid ht
    have HQ := Lib.hid (show reqB fs = (t && trailB (fs.drop (headN fs))) by rw [reqB_yes ho, ht])
    clear ho hs hd ht
    go_wp2_with fail
    refine (isAsked_any b _ _ _ HSM.out (HM.out.take _)).mono ?_
    rintro e w2 ⟨rfl, hb2⟩
    rw [HT.out]
    have HB2 := Lib.hid (HB.out.trans (hb2.mono HB.out.size))
    have HD2 := Lib.hid (HD.out.below hb2)
    clear hb2
    cases t
    · go_wp2_with fail
      go_ret
      exact ⟨by rw [HQ.out]; rfl, HB2.out⟩
    · go_wp2_with fail
      refine (pTrail_any _ _ _ HD2.out (HM.out.drop _) (by rw [List.length_drop]; have := HL.out; omega)).mono ?_
      rintro e w3 ⟨rfl, hb3⟩
      have HB3 := Lib.hid (HB2.out.trans (hb3.mono HB2.out.size))
      clear hb3
      go_wp2_with fail
      go_ret
      exact ⟨by rw [HQ.out]; rfl, HB3.out⟩
set_option maxHeartbeats 1000000 in
theorem pResp_any (v : Value) (fs : List Fd) (w : World) (h : SlD w v fs) (hm : Mild fs) (hl : fs.length ≤ 1000) :
    Calls Try.prog 14 #[v] w fun e w' => e = .returned (.bool (respB fs)) ∧ Below w.heap.size w w' := by
  have HM := Lib.hid hm
  have HL := Lib.hid hl
  have HA := Lib.hid ((Below.refl w.heap.size w).alloc (Nat.le_refl _) (.cells #[.string ⟨#[58, 115, 116, 97, 116, 117, 115]⟩] 9))
  have HS := Lib.hid (strs_lit (w := w) (e := 9) (n := 1) [nStat] (cs := #[.string ⟨#[58, 115, 116, 97, 116, 117, 115]⟩]) rfl rfl)
  have HH := Lib.hid (h.below HA.out)
  obtain ⟨a, c, rfl, hc1, hc2⟩ := h.shape
  clear h hm hl
  go_enter Try.func14, Try.ntmps14
  go_wp2_with fail
  refine (ahead_any _ _ fs [nStat] _ HH.out HS.out (by decide) HM.out HL.out).mono ?_
  rintro e w1 ⟨ha, hb⟩
  have HB := Lib.hid (HA.out.trans (hb.mono HA.out.size))
  clear hb
  rcases ha with ⟨hn, rfl⟩ | ⟨ho, b, v2, rfl, hs, hd⟩
  · have HQ := Lib.hid (respB_no hn)
    clear hn
    go_wp2_with fail
    go_ret
    exact ⟨by rw [HQ.out]; rfl, HB.out⟩
  · have HD := Lib.hid hd
    have hlk : (Instr.lookup 33 (.map (some b)) (.string ⟨#[58, 115, 116, 97, 116, 117, 115]⟩) false).run Try.prog w1 = .ok (.string (getK nStat (fs.take (headN fs)))) w1 := hs.look nStat (by decide)
    have HZ := Lib.hid (cnt_size (HM.out.take (headN fs)) nStat)
    have HR := Lib.hid (respB_yes ho)
    obtain ⟨x, hx⟩ : ∃ x, getK nStat (fs.take (headN fs)) = x := ⟨_, rfl⟩
    rw [hx] at hlk HZ HR
    obtain ⟨t, ht⟩ : ∃ t, (decide (x.size = 3) && (decide (200 ≤ numB (nums x)) && decide (numB (nums x) ≤ 599))) = t := ⟨_, rfl⟩
    have HT := Lib.hid ht
    have HQ := Lib.hid (show respB fs = (t && trailB (fs.drop (headN fs))) by rw [HR.out, ← ht]; rfl)
    clear ho hs hd ht hx
    go_wp2_with fail
    refine (isStatus_any x _ HZ.out).mono ?_
    rintro e w2 ⟨rfl, hb2⟩
    rw [HT.out]
    have HB2 := Lib.hid (HB.out.trans (hb2.mono HB.out.size))
    have HD2 := Lib.hid (HD.out.below hb2)
    clear hb2 hlk
    cases t
    · go_wp2_with fail
      go_ret
      exact ⟨by rw [HQ.out]; rfl, HB2.out⟩
    · go_wp2_with fail
      refine (pTrail_any _ _ _ HD2.out (HM.out.drop _) (by rw [List.length_drop]; have := HL.out; omega)).mono ?_
      rintro e w3 ⟨rfl, hb3⟩
      have HB3 := Lib.hid (HB2.out.trans (hb3.mono HB2.out.size))
      clear hb3
      go_wp2_with fail
      go_ret
      exact ⟨by rw [HQ.out]; rfl, HB3.out⟩
end Go.Proofs.Ytabonhiolcjnnaa
