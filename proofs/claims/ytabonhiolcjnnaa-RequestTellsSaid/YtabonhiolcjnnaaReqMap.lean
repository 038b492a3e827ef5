
/-
  Layer 10, the program's own: what was seen ahead in a list, as a map; the math of it.
-/
import Derived.Test.YtabonhiolcjnnaaReqNum
import Derived.Test.YtabonhiolcjnnaaReqList
import Derived.Maps.OwnSet
import Derived.Maps.StringElems
import Derived.StringKeys
namespace Go.Proofs.Ytabonhiolcjnnaa
set_option maxRecDepth 20000
open Go.RowKit Go.Maps

/-- the map of fields, the later ones over the earlier ones -/
def mapD (h : List Fd) : DataW Unit := h.foldl (fun m f => m.put (.string f.1.data.toList) (.lit (.string f.2.data.toList))) (.map [])
theorem mapD_snoc (h : List Fd) (f : Fd) : mapD (h ++ [f]) = (mapD h).put (.string f.1.data.toList) (.lit (.string f.2.data.toList)) := by
  unfold mapD; rw [List.foldl_append]; rfl
theorem snoc_ind {α : Type} {p : List α → Prop} (h0 : p []) (h1 : ∀ l x, p l → p (l ++ [x])) (l : List α) : p l := by
  have : ∀ r : List α, p r.reverse := fun r => by
    induction r with
    | nil => exact h0
    | cons x r ih => rw [List.reverse_cons]; exact h1 _ _ ih
  have := this l.reverse
  rwa [List.reverse_reverse] at this
theorem str_key (s : ByteArray) : WideAt.IsKeyLit (Lit.string s.data.toList) := by unfold WideAt.IsKeyLit; trivial
theorem mapD_tidy (h : List Fd) : Tidy (mapD h) := by
  induction h using snoc_ind with
  | h0 => exact tidy_empty
  | h1 l x ih => rw [mapD_snoc]; exact ih.put (str_key _) _
theorem data_ne {a b : ByteArray} (h : eqB a b = false) : Lit.string b.data.toList ≠ Lit.string a.data.toList := fun e => by
  injection e with e
  have : a = b := by
    apply ByteArray.ext
    exact Array.toList_inj.1 e.symm
  rw [this, eqB_iff.2 rfl] at h
  cases h
/-- how often a name is there -/
def cntK (k : ByteArray) (h : List Fd) : Nat := (valOf k v0 h).2
def getK (k : ByteArray) (h : List Fd) : ByteArray := (valOf k v0 h).1
theorem cntK_snoc (k : ByteArray) (h : List Fd) (f : Fd) : cntK k (h ++ [f]) = cntK k h + (bif eqB f.1 k then 1 else 0) := by
  unfold cntK
  rw [valOf_append]
  cases eqB f.1 k <;> rfl
theorem getK_snoc (k : ByteArray) (h : List Fd) (f : Fd) : getK k (h ++ [f]) = bif eqB f.1 k then f.2 else getK k h := by
  unfold getK
  rw [valOf_append]
  cases eqB f.1 k <;> rfl
theorem mapD_has (k : ByteArray) (h : List Fd) : Maps.has (mapD h) (.string k.data.toList) = decide (0 < cntK k h) := by
  induction h using snoc_ind with
  | h0 => rfl
  | h1 l f ih =>
    rw [mapD_snoc, cntK_snoc]
    cases e : eqB f.1 k
    · rw [has_put_other (data_ne e), ih]
      simp
    · obtain rfl := eqB_iff.1 e
      rw [has_put_same (mapD_tidy l).isMap (str_key _)]
      simp
theorem mapD_at (k : ByteArray) (h : List Fd) : (mapD h).atKey (.string k.data.toList) (.lit (.string [])) = .lit (.string (getK k h).data.toList) := by
  induction h using snoc_ind with
  | h0 => rfl
  | h1 l f ih =>
    rw [mapD_snoc, getK_snoc]
    cases e : eqB f.1 k
    · rw [atKey_put_other (data_ne e), ih]
      rfl
    · obtain rfl := eqB_iff.1 e
      rw [atKey_put_same (mapD_tidy l).isMap (str_key _)]
      rfl
theorem getK_none {k : ByteArray} {h : List Fd} (hc : cntK k h = 0) : getK k h = ⟨#[]⟩ := by
  induction h using snoc_ind with
  | h0 => rfl
  | h1 l f ih =>
    rw [cntK_snoc] at hc
    rw [getK_snoc]
    cases e : eqB f.1 k
    · rw [e] at hc; exact ih hc
    · rw [e] at hc; simp only [cond_true] at hc; omega
theorem cntK_app (k : ByteArray) (a b : List Fd) : cntK k a ≤ cntK k (a ++ b) := by
  induction b using snoc_ind with
  | h0 => rw [List.append_nil]; exact Nat.le_refl _
  | h1 l f ih => rw [← List.append_assoc, cntK_snoc]; omega
theorem cntK_mem {k : ByteArray} {h : List Fd} (hc : 0 < cntK k h) : ∃ f ∈ h, f.1 = k := by
  induction h using snoc_ind with
  | h0 => exact absurd hc (by show ¬ 0 < 0; omega)
  | h1 l f ih =>
    rw [cntK_snoc] at hc
    cases e : eqB f.1 k
    · rw [e] at hc
      obtain ⟨g, hg, he⟩ := ih hc
      exact ⟨g, List.mem_append_left _ hg, he⟩
    · exact ⟨f, by simp, eqB_iff.1 e⟩
def inK (ks : List ByteArray) (x : ByteArray) : Bool := ks.any (fun k => eqB x k)
theorem inK_iff {ks : List ByteArray} {x : ByteArray} : inK ks x = true ↔ x ∈ ks := by
  unfold inK
  rw [List.any_eq_true]
  exact ⟨fun ⟨k, hk, e⟩ => by rw [eqB_iff.1 e]; exact hk, fun h => ⟨x, h, eqB_iff.2 rfl⟩⟩
/-- fields such as may be ahead -/
def OkH (ks : List ByteArray) (h : List Fd) : Prop := (∀ f ∈ h, inK ks f.1 = true ∧ valB (nums f.2) = true) ∧ ∀ k, cntK k h ≤ 1
theorem OkH.nil (ks : List ByteArray) : OkH ks [] := ⟨fun f hf => by simp at hf, fun k => by show 0 ≤ 1; omega⟩
theorem OkH.snoc {ks : List ByteArray} {h : List Fd} {f : Fd} : OkH ks (h ++ [f]) ↔ OkH ks h ∧ cntK f.1 h = 0 ∧ inK ks f.1 = true ∧ valB (nums f.2) = true := by
  constructor
  · rintro ⟨h1, h2⟩
    refine ⟨⟨fun g hg => h1 g (List.mem_append_left _ hg), fun k => Nat.le_trans (cntK_app k h [f]) (h2 k)⟩, ?_, h1 f (by simp)⟩
    have := h2 f.1
    rw [cntK_snoc, eqB_iff.2 rfl] at this
    simp only [cond_true] at this
    omega
  · rintro ⟨⟨h1, h2⟩, h3, h4⟩
    refine ⟨fun g hg => ?_, fun k => ?_⟩
    · rcases List.mem_append.1 hg with hg | hg
      · exact h1 g hg
      · rw [List.mem_singleton] at hg; rw [hg]; exact h4
    · rw [cntK_snoc]
      cases e : eqB f.1 k
      · exact h2 k
      · obtain rfl := eqB_iff.1 e
        rw [h3]; exact Nat.le_refl _
theorem OkH.left {ks : List ByteArray} {a b : List Fd} (h : OkH ks (a ++ b)) : OkH ks a :=
  ⟨fun f hf => h.1 f (List.mem_append_left _ hf), fun k => Nat.le_trans (cntK_app k a b) (h.2 k)⟩
theorem OkH.size {ks : List ByteArray} {h : List Fd} (ho : OkH ks h) : Maps.size (mapD h) = h.length := by
  induction h using snoc_ind with
  | h0 => rfl
  | h1 l f ih =>
    obtain ⟨h1, h2, _⟩ := OkH.snoc.1 ho
    rw [mapD_snoc, size_put (mapD_tidy l), mapD_has, h2, ih h1]
    simp
/-- the map lies in a block -/
def SMap (w : World) (b n : Nat) (h : List Fd) : Prop := w.ownsMap Try.prog 9 (plainElem (H := Unit) Try.prog 9) b n (mapD h)
theorem Try.smapUnder : Try.prog.underlying 33 = some (.map 9 9) := by kernel_rfl
theorem Try.skeyed : Keyed Try.prog 9 := string_keyed Try.underlying9
theorem Try.zeroStr (w : World) : (zeroValue 9).run Try.prog w = .ok (.string ⟨#[]⟩) w := by kernel_rfl
theorem SMap.below {w w' : World} {b n : Nat} {h : List Fd} (hm : SMap w b n h) (hb : Below w.heap.size w w') : SMap w' b n h := by
  have hl := World.ownsMap.lt hm
  obtain ⟨es, clock, hh, r⟩ := hm
  exact ⟨es, clock, (hb.block b hl).trans hh, r⟩
theorem SMap.lt {w : World} {b n : Nat} {h : List Fd} (hm : SMap w b n h) : b < w.heap.size := World.ownsMap.lt hm
theorem SMap.look {w : World} {b n : Nat} {h : List Fd} (hm : SMap w b n h) (k : ByteArray) (hk : k.size ≤ maxLen) :
    (Instr.lookup 33 (.map (some b)) (.string k) false).run Try.prog w = .ok (.string (getK k h)) w := by
  obtain ⟨v, ps, hrun, hv⟩ := World.ownsMap.lookup hm Try.skeyed Try.smapUnder (Try.zeroStr w) (plainElem_string Try.underlying9 (s := ⟨#[]⟩) (by decide)) (WideMaps.keyOf_string_mk Try.underlying9 hk)
  rw [hrun]
  obtain ⟨s, rfl, hz, _⟩ := plainElem_string_inv Try.underlying9 hv
  rw [show (Array.toList (ByteArray.data ⟨#[]⟩)) = ([] : List UInt8) from rfl, mapD_at] at hz
  injection hz with hz _
  injection hz with hz
  injection hz with hz
  rw [show getK k h = s from ByteArray.ext (Array.toList_inj.1 hz)]
theorem SMap.look_ok {w : World} {b n : Nat} {h : List Fd} (hm : SMap w b n h) (k : ByteArray) (hk : k.size ≤ maxLen) :
    (Instr.lookup 33 (.map (some b)) (.string k) true).run Try.prog w = .ok (.tuple #[.string (getK k h), .bool (decide (0 < cntK k h))]) w := by
  obtain ⟨v, ps, hrun, hv⟩ := World.ownsMap.look_ok hm Try.skeyed Try.smapUnder (Try.zeroStr w) (plainElem_string Try.underlying9 (s := ⟨#[]⟩) (by decide)) (WideMaps.keyOf_string_mk Try.underlying9 hk)
  rw [hrun]
  obtain ⟨s, rfl, hz, _⟩ := plainElem_string_inv Try.underlying9 hv
  rw [show (Array.toList (ByteArray.data ⟨#[]⟩)) = ([] : List UInt8) from rfl, mapD_at] at hz
  injection hz with hz _
  injection hz with hz
  injection hz with hz
  rw [show getK k h = s from ByteArray.ext (Array.toList_inj.1 hz), mapD_has]
theorem SMap.len {w : World} {b n : Nat} {h : List Fd} (hm : SMap w b n h) {ks : List ByteArray} (ho : OkH ks h) : (Builtin.len_ #[33] 3 #[.map (some b)]).run Try.prog w = .ok (.int .i64 h.length) w := by
  rw [World.ownsMap.len hm Try.smapUnder, ho.size]
/-- texts in a row -/
def SlS (w : World) (v : Value) (ks : List ByteArray) : Prop :=
  ∃ b off cap, v = .slice (some ⟨b, off, none⟩) ks.length cap ∧ b < w.heap.size ∧ ∀ i k, ks[i]? = some k → w.cell? ⟨b, off + i, none⟩ = some (.string k)
theorem SlS.below {w w' : World} {v : Value} {ks : List ByteArray} (h : SlS w v ks) (hb : Below w.heap.size w w') : SlS w' v ks := by
  obtain ⟨b, off, cap, rfl, hl, hc⟩ := h
  exact ⟨b, off, cap, rfl, Nat.lt_of_lt_of_le hl hb.size, fun i k hi => (hb.cell (p := ⟨b, off + i, none⟩) hl).trans (hc i k hi)⟩
/-- the four names, each but once: how many there are tells all -/
theorem four_sum (h : List Fd) : cntK nMeth h + cntK nSchm h + cntK nPath h + cntK nAuth h ≤ h.length ∧
    (cntK nMeth h + cntK nSchm h + cntK nPath h + cntK nAuth h = h.length ↔ ∀ f ∈ h, inK [nMeth, nSchm, nPath, nAuth] f.1 = true) := by
  induction h using snoc_ind with
  | h0 => exact ⟨by decide, ⟨fun _ f hf => by simp at hf, fun _ => rfl⟩⟩
  | h1 l f ih =>
    have hx : (bif eqB f.1 nMeth then 1 else 0) + (bif eqB f.1 nSchm then 1 else 0) + (bif eqB f.1 nPath then 1 else 0) + (bif eqB f.1 nAuth then 1 else 0) = (bif inK [nMeth, nSchm, nPath, nAuth] f.1 then 1 else 0) := by
      unfold inK
      simp only [List.any_cons, List.any_nil, Bool.or_false]
      have n12 : eqB nMeth nSchm = false := by decide +kernel
      have n13 : eqB nMeth nPath = false := by decide +kernel
      have n14 : eqB nMeth nAuth = false := by decide +kernel
      have n23 : eqB nSchm nPath = false := by decide +kernel
      have n24 : eqB nSchm nAuth = false := by decide +kernel
      have n34 : eqB nPath nAuth = false := by decide +kernel
      cases e1 : eqB f.1 nMeth
      · cases e2 : eqB f.1 nSchm
        · cases e3 : eqB f.1 nPath
          · cases e4 : eqB f.1 nAuth <;> rfl
          · rw [eqB_iff.1 e3, n34]; rfl
        · rw [eqB_iff.1 e2, n23, n24]; rfl
      · rw [eqB_iff.1 e1, n12, n13, n14]; rfl
    simp only [cntK_snoc, List.length_append, List.length_cons, List.length_nil, Nat.zero_add]
    cases e : inK [nMeth, nSchm, nPath, nAuth] f.1
    · rw [e] at hx
      simp only [cond_false] at hx
      refine ⟨by omega, ⟨fun q => absurd q (by omega), fun q => ?_⟩⟩
      have := q f (by simp)
      rw [e] at this; cases this
    · rw [e] at hx
      simp only [cond_true] at hx
      refine ⟨by omega, ⟨fun q g hg => ?_, fun q => ?_⟩⟩
      · rcases List.mem_append.1 hg with hg | hg
        · exact ih.2.1 (by omega) g hg
        · rw [List.mem_singleton] at hg; rw [hg]; exact e
      · have := ih.2.2 (fun g hg => q g (List.mem_append_left _ hg))
        omega
/-- does what was seen ask for something? -/
def asked (h : List Fd) : Bool := tokB false (nums (getK nMeth h)) &&
  (bif eqB (getK nMeth h) vConn then (!decide (0 < cntK nSchm h) && !decide (0 < cntK nPath h)) && !eqB (getK nAuth h) ⟨#[]⟩ else !eqB (getK nSchm h) ⟨#[]⟩ && !eqB (getK nPath h) ⟨#[]⟩)
theorem reqB_yes {l : List Fd} (h : OkH [nMeth, nSchm, nPath, nAuth] (l.take (headN l))) : reqB l = (asked (l.take (headN l)) && trailB (l.drop (headN l))) := by
  have hs := (four_sum (l.take (headN l))).2.2 (fun f hf => (h.1 f hf).1)
  have hv : headOk l = true := by
    unfold headOk
    exact List.all_eq_true.2 fun f hf => (h.1 f hf).2
  have hn : (l.take (headN l)).length = headN l := by rw [List.length_take]; exact Nat.min_eq_left (headN_le l)
  unfold reqB asked
  simp only []
  rw [hv]
  have h1 := h.2 nMeth
  have h2 := h.2 nSchm
  have h3 := h.2 nPath
  have h4 := h.2 nAuth
  rw [hn] at hs
  have hz := getK_none (k := nMeth) (h := l.take (headN l))
  unfold cntK at hs h1 h2 h3 h4 hz ⊢
  unfold getK at hz ⊢
  cases ht : tokB false (nums (valOf nMeth v0 (l.take (headN l))).1)
  · simp
  · have hm : (valOf nMeth v0 (l.take (headN l))).2 = 1 := by
      by_cases hm0 : (valOf nMeth v0 (l.take (headN l))).2 = 0
      · rw [hz hm0] at ht; cases ht
      · omega
    rw [decide_eq_true (show _ ∧ _ ∧ _ ∧ _ ∧ _ from ⟨hm, h2, h3, h4, hs⟩)]
    have e1 : decide ((valOf nSchm v0 (l.take (headN l))).2 = 0 ∧ (valOf nPath v0 (l.take (headN l))).2 = 0) = (!decide (0 < (valOf nSchm v0 (l.take (headN l))).2) && !decide (0 < (valOf nPath v0 (l.take (headN l))).2)) := by
      rw [Bool.decide_and, ← decide_not, ← decide_not]
      congr 1 <;> (rw [decide_eq_decide]; omega)
    rw [e1]
    simp only [Bool.true_and, Bool.and_true]
    rw [Bool.and_comm]
theorem reqB_no {l : List Fd} (h : ¬ OkH [nMeth, nSchm, nPath, nAuth] (l.take (headN l))) : reqB l = false := by
  rw [Bool.eq_false_iff]
  intro hr
  apply h
  unfold reqB at hr
  simp only [Bool.and_eq_true, decide_eq_true_iff] at hr
  obtain ⟨⟨⟨h1, _⟩, h2, h3, h4, h5, h6⟩, _⟩ := hr
  have hn : (l.take (headN l)).length = headN l := by rw [List.length_take]; exact Nat.min_eq_left (headN_le l)
  have hin := (four_sum (l.take (headN l))).2.1 (by unfold cntK; rw [hn]; exact h6)
  refine ⟨fun f hf => ⟨hin f hf, List.all_eq_true.1 h1 f hf⟩, fun k => ?_⟩
  by_cases h0 : 0 < cntK k (l.take (headN l))
  · obtain ⟨f, hf, rfl⟩ := cntK_mem h0
    have := inK_iff.1 (hin f hf)
    simp only [List.mem_cons, List.not_mem_nil, or_false] at this
    rcases this with e | e | e | e <;> rw [e] <;> unfold cntK <;> omega
  · omega
theorem numB_no_high {s : ByteArray} (h : valB (nums s) = false) : ¬ 200 ≤ numB (nums s) := by
  intro h2
  have hv : valB (nums s) = true := by
    refine val_yes fun j hj => ?_
    unfold numB at h2
    split at h2
    · rename_i hc
      have := of_decide_eq_true (List.all_eq_true.1 hc.2.2 _ (at0_mem hj))
      unfold okAt innC edgeC
      rw [show (at0 (nums s) j == 0) = false from beq_eq_false_iff_ne.2 (by omega), show (at0 (nums s) j == 10) = false from beq_eq_false_iff_ne.2 (by omega), show (at0 (nums s) j == 13) = false from beq_eq_false_iff_ne.2 (by omega), show (at0 (nums s) j == 9) = false from beq_eq_false_iff_ne.2 (by omega), show (at0 (nums s) j == 32) = false from beq_eq_false_iff_ne.2 (by omega)]
      simp
    · omega
  rw [h] at hv; cases hv
theorem col_notord {f : Fd} (h : colB f = true) : ordF f = false := by
  unfold colB at h
  rw [Bool.and_eq_true, decide_eq_true_iff, beq_iff_eq] at h
  unfold ordF
  rw [show tokB true (nums f.1) = false by
    unfold tokB
    rw [all_not (k := 0) (by rw [nums_length]; exact h.1) (by rw [h.2]; rfl)]; rfl]
  rfl
def statB (s : ByteArray) : Bool := decide (s.size = 3) && (decide (200 ≤ numB (nums s)) && decide (numB (nums s) ≤ 599))
theorem respB_yes {l : List Fd} (h : OkH [nStat] (l.take (headN l))) : respB l = (statB (getK nStat (l.take (headN l))) && trailB (l.drop (headN l))) := by
  cases l with
  | nil => rfl
  | cons f r =>
    rw [headN] at h ⊢
    cases hc : colB f
    · rw [hc] at h
      simp only [cond_false, List.take_zero, List.drop_zero]
      have : eqB f.1 nStat = false := by
        rw [Bool.eq_false_iff]; intro e
        have e := eqB_iff.1 e
        unfold colB at hc; rw [e] at hc; cases hc
      rw [respB, this]
      rfl
    · rw [hc] at h
      simp only [cond_true, List.take_succ_cons, List.drop_succ_cons] at h ⊢
      have hf := inK_iff.1 (h.1 f (by simp)).1
      rw [List.mem_singleton] at hf
      have h0 : headN r = 0 := by
        cases r with
        | nil => rfl
        | cons g r2 =>
          rw [headN]
          cases hg : colB g
          · rfl
          · exfalso
            rw [headN, hg] at h
            simp only [cond_true, List.take_succ_cons] at h
            have hg2 := inK_iff.1 (h.1 g (by simp)).1
            rw [List.mem_singleton] at hg2
            have := Nat.le_trans (cntK_app nStat [f, g] (r2.take (headN r2))) (h.2 nStat)
            unfold cntK at this
            simp only [valOf, hf, hg2, eqB_iff.2, cond_true, v0] at this
            omega
      rw [h0]
      simp only [List.take_zero, List.drop_zero]
      unfold getK statB
      simp only [valOf, hf, eqB_iff.2, cond_true, v0, respB, Bool.true_and, Bool.and_assoc]
theorem respB_no {l : List Fd} (h : ¬ OkH [nStat] (l.take (headN l))) : respB l = false := by
  cases l with
  | nil => exact absurd (OkH.nil _) h
  | cons f r =>
    rw [Bool.eq_false_iff]
    intro hr
    apply h
    rw [respB] at hr
    simp only [Bool.and_eq_true, decide_eq_true_iff] at hr
    obtain ⟨h1, h2, h3, h4, h5⟩ := hr
    have hf := eqB_iff.1 h1
    have hcf : colB f = true := by unfold colB; rw [hf]; rfl
    have h0 : headN r = 0 := by
      cases r with
      | nil => rfl
      | cons g r2 =>
        rw [headN]
        cases hg : colB g
        · rfl
        · exfalso
          rw [trailB_ord (k := 0) (f := g) rfl (col_notord hg)] at h5
          cases h5
    rw [headN, hcf, h0]
    simp only [cond_true, List.take_succ_cons, List.take_zero]
    refine (OkH.snoc (h := [])).2 ⟨OkH.nil _, rfl, inK_iff.2 (by rw [hf]; simp), ?_⟩
    cases hv : valB (nums f.2)
    · exact absurd h3 (numB_no_high hv)
    · rfl
end Go.Proofs.Ytabonhiolcjnnaa
