/-
  Several texts of mine, one behind the other: Moved.
-/
import Derived.Test.YtnoegbdmjinfjaaMgD
import Derived.OrdersIn
import Derived.RangeFuncCalls

/-
  A region that draws its order, by a table, where one of its operations turns what lay (a call on an object): as XRegion, with that one operation named. Such regions in a round of a range over a function. No program is named here.
-/
namespace Go.Proofs.Ytnoegbdmjinfjaa.Moved
open Go.RowKit

/-- one operation of the head, by itself: 'pre' holds of the world that it comes to, 'post' of that and the one that it leaves -/
def opOk (pre : World → Prop) (post : World → World → Prop) (P : Program) (D : List Tmp) (a0 : Act) (Ψ : Nat → Value → World → Prop) (i : Nat) (js : List (Nat × Tmp)) (o : Oper) : Prop :=
  ∀ (ρ : Operand → Value) (w : World), (∀ v, ρ (.const v) = v) → (∀ f, ρ (.func f) = .func (.func f) #[] #[]) → (∀ t, t ∉ D → ρ (.tmp t) = a0.eval (.tmp t)) → pre w → (∀ p ∈ js, Ψ p.1 (ρ (.tmp p.2)) w) →
    gives P o ρ w fun v w' => Ψ i v w' ∧ post w w'
/-- one that may be late: it yields in whatever world -/
def lateOk (pre : World → Prop) (P : Program) (D : List Tmp) (a0 : Act) (Ψ : Nat → Value → World → Prop) (i : Nat) (js : List (Nat × Tmp)) (o : Oper) : Prop :=
  ∀ (ρ : Operand → Value) (w : World), (∀ v, ρ (.const v) = v) → (∀ t, t ∉ D → ρ (.tmp t) = a0.eval (.tmp t)) → pre w → (∀ p ∈ js, Ψ p.1 (ρ (.tmp p.2)) w) →
    ∃ v, (∀ w', (execOp ρ o).run P w' = .ok (.value v) w') ∧ Ψ i v w
def Grow (w w' : World) : Prop := Below w.heap.size w w'
/-- all of them: the mover is number m; ahead of it the world has grown from W0 alone -/
def opsOk (m : Nat) (G : World → Prop) (M : World → World → Prop) (P : Program) (D : List Tmp) (a0 : Act) (W0 : World) (Ψ : Nat → Value → World → Prop) : Nat → List (List (Nat × Tmp)) → List Oper → Prop
  | i, js :: jss, o :: l => (if i = m then opOk (fun w => Below W0.heap.size W0 w) M P D a0 Ψ i js o else opOk G Grow P D a0 Ψ i js o) ∧ opsOk m G M P D a0 W0 Ψ (i + 1) jss l
  | i, [], o :: l => (if i = m then opOk (fun w => Below W0.heap.size W0 w) M P D a0 Ψ i [] o else opOk G Grow P D a0 Ψ i [] o) ∧ opsOk m G M P D a0 W0 Ψ (i + 1) [] l
  | _, _, [] => True
theorem opsOk_get {m : Nat} {G : World → Prop} {M : World → World → Prop} {P : Program} {D : List Tmp} {a0 : Act} {W0 : World} {Ψ : Nat → Value → World → Prop} : ∀ (l : List Oper) (k : Nat) (jss : List (List (Nat × Tmp))), opsOk m G M P D a0 W0 Ψ k jss l → ∀ i o, l[i]? = some o →
    if k + i = m then opOk (fun w => Below W0.heap.size W0 w) M P D a0 Ψ (k + i) (jss.getD i []) o else opOk G Grow P D a0 Ψ (k + i) (jss.getD i []) o
  | [], _, _, _, i, o, h => by simp at h
  | o :: l, k, [], h, 0, _, e => by simp at e; subst e; simpa using h.1
  | o :: l, k, js :: jss, h, 0, _, e => by simp at e; subst e; simpa using h.1
  | o :: l, k, [], h, i + 1, o', e => by
    have := opsOk_get l (k + 1) [] h.2 i o' (by simpa using e)
    simpa [Nat.add_assoc, Nat.add_comm 1 i] using this
  | o :: l, k, js :: jss, h, i + 1, o', e => by
    have := opsOk_get l (k + 1) jss h.2 i o' (by simpa using e)
    simpa [Nat.add_assoc, Nat.add_comm 1 i] using this
/-- how the worlds go on -/
structure Way (m : Nat) (W0 : World) (G : World → Prop) (M : World → World → Prop) (Ψ : Nat → Value → World → Prop) : Prop where
  start : ∀ w, Below W0.heap.size W0 w → G w
  grow : ∀ w w', G w → Below w.heap.size w w' → G w'
  move : ∀ w w', Below W0.heap.size W0 w → M w w' → G w'
  keep : ∀ i v w w', Ψ i v w → Below w.heap.size w w' → Ψ i v w'
  past : ∀ i v w w', i ≠ m → Ψ i v w → Below W0.heap.size W0 w → M w w' → Ψ i v w'

section
variable {P : Program} {l : List Oper} {n mv : Nat} {D : List Tmp} {js : List (List (Nat × Tmp))} {E L : List Nat} {a0 : Act} {W0 : World} {Ψ : Nat → Value → World → Prop} {Q : Exit → Act → World → Prop} {G : World → Prop} {M : World → World → Prop}
/-- where the head stands, in whatever order it has come so far -/
structure Mid (mv : Nat) (G : World → Prop) (l : List Oper) (n : Nat) (D : List Tmp) (E : List Nat) (a0 : Act) (W0 : World) (Ψ : Nat → Value → World → Prop) (listed : Array Bool) (a : Act) (w : World) : Prop where
  head : HeadInv .any l.toArray n listed
  below : G w
  first : listed.getD mv false = false → Below W0.heap.size W0 w
  size : a.tmps.size = a0.tmps.size
  defers : a.defers = a0.defers
  other : ∀ t, t ∉ D → a.tmps[t]? = a0.tmps[t]?
  early : ∀ i ∈ E, listed.getD i false = true
  holds : ∀ i, i < n → listed.getD i false = true → Ψ i (a.eval (.tmp (D.getD i 0))) w
theorem Mid.facts {sz : Nat} {listed : Array Bool} {a : Act} {w : World} {i : Nat} (I : Mid mv G l n D E a0 W0 Ψ listed a w) (S : Shape l n sz D js E L) (hi : i ∈ Region.ready .any l.toArray listed) (hin : i < n) : ∀ p ∈ js.getD i [], Ψ p.1 (a.eval (.tmp p.2)) w := by
  obtain ⟨o, ho, _, _, _, hjs⟩ := S.op i hin
  obtain ⟨_, o', ho', hready⟩ := mem_ready.1 hi
  have ho2 : l.toArray[i]? = some o := by simpa using ho
  obtain rfl : o' = o := Option.some.inj (ho'.symm.trans ho2)
  intro p hp
  obtain ⟨h1, h2, h3⟩ := hjs p hp
  rw [h3]
  refine I.holds p.1 h1 ?_
  rcases h2 with h2 | h2
  · exact I.early _ h2
  obtain ⟨oj, hoj, e, he, hb, hon⟩ := Region.waitsFor_spec h2
  have : oj = o' := Option.some.inj (hoj.symm.trans ho2)
  subst this
  rw [← hon]
  exact hready e he hb
/-- one more has come up -/
theorem Mid.put {sz : Nat} {listed : Array Bool} {a : Act} {w : World} {i : Nat} (I : Mid mv G l n D E a0 W0 Ψ listed a w) (S : Shape l n sz D js E L) (hsz : a0.tmps.size = sz) (hW : Way mv W0 G M Ψ)
    (hi : i ∈ Region.ready .any l.toArray listed) (hin : i < n) (v : Value) (w' : World) (hv : Ψ i v w') (hb : if i = mv then M w w' else Below w.heap.size w w') :
    (List.range n).countP (fun j => !listed.getD j true) = (List.range n).countP (fun j => !(listed.setIfInBounds i true).getD j true) + 1 ∧ Mid mv G l n D E a0 W0 Ψ (listed.setIfInBounds i true) (a.put (some (D.getD i 0)) v) w' := by
  have hls : listed.size = l.length := by simpa using I.head.size
  have hle := S.le
  have hiun := (mem_ready.1 hi).1
  refine ⟨?_, I.head.set hi hin, ?_, ?_, ?_, ?_, ?_, fun j hj => getD_set_true (I.early j hj), ?_⟩
  · exact countP_flip (fun j => !listed.getD j true) (fun j => !(listed.setIfInBounds i true).getD j true) i (by simp [hiun]) (by simp [show i < listed.size by rw [hls]; omega]) (fun j hj => by rw [getD_set_ne true (Ne.symm hj)]) (List.range n) List.nodup_range (List.mem_range.2 hin)
  · by_cases him : i = mv
    · rw [if_pos him] at hb
      exact hW.move _ _ (I.first (by rw [← him]; exact getD_both hiun)) hb
    · rw [if_neg him] at hb
      exact hW.grow _ _ I.below hb
  · intro hm
    by_cases him : i = mv
    · subst him
      have : (listed.setIfInBounds i true).getD i false = true := by simp [show i < listed.size by rw [hls]; omega]
      rw [this] at hm
      cases hm
    · rw [if_neg him] at hb
      rw [getD_set_ne false him] at hm
      have := I.first hm
      exact this.trans (hb.mono this.size)
  · simp [Act.put, I.size]
  · simp [Act.put, I.defers]
  · intro t ht
    simp only [Act.put]
    rw [Array.getElem?_setIfInBounds_ne]
    · exact I.other t ht
    · intro e
      refine ht ?_
      rw [← e, List.getD_eq_getElem?_getD, List.getElem?_eq_getElem (by rw [S.len]; exact hin), Option.getD_some]
      exact List.getElem_mem _
  · intro j hj hlj
    by_cases hji : j = i
    · subst hji
      have : (a.put (some (D.getD j 0)) v).eval (.tmp (D.getD j 0)) = v := by
        simp only [Act.eval, Act.put]
        rw [Array.getD_eq_getD_getElem?, Array.getElem?_setIfInBounds_self_of_lt (by rw [I.size, hsz]; exact S.lt j hin), Option.getD_some]
      rw [this]
      exact hv
    · rw [getD_set_ne false (Ne.symm hji)] at hlj
      have : (a.put (some (D.getD i 0)) v).eval (.tmp (D.getD j 0)) = a.eval (.tmp (D.getD j 0)) := by
        refine Act.eval_put fun d hd' e => ?_
        simp only [Option.some.injEq] at hd'
        subst hd'
        simp only [Operand.tmp.injEq] at e
        exact hji (S.inj j i hj hin e)
      rw [this]
      by_cases him : i = mv
      · rw [if_pos him] at hb
        exact hW.past _ _ _ _ (by omega) (I.holds j hj hlj) (I.first (by rw [← him]; exact getD_both hiun)) hb
      · rw [if_neg him] at hb
        exact hW.keep _ _ _ _ (I.holds j hj hlj) hb

theorem mid_any {sz : Nat} (S : Shape l n sz D js E L) (hsz : a0.tmps.size = sz) (hW : Way mv W0 G M Ψ) (hop : opsOk mv G M P D a0 W0 Ψ 0 js (l.take n)) (hQ : ∀ i ∈ L, ∀ c (a : Act) d v w, Q (.panic c) (a.put d v) w → Q (.panic c) a w) (hlate : ∀ i ∈ L, i < n → ∀ o, l[i]? = some o → i ≠ mv ∧ lateOk G P D a0 Ψ i (js.getD i []) o)
    (hend : ∀ (x : Nat → Value) (w : World), G w → (∀ i, i < n → Ψ i (x i) w) → wpList P l.toArray Q (l.drop n) (putAll D x n a0) w) :
    ∀ (m : Nat) (listed : Array Bool) (a : Act) (w : World), (List.range n).countP (fun i => !listed.getD i true) = m → Mid mv G l n D E a0 W0 Ψ listed a w → wpAny P .any l.toArray Q (m + (l.length - n)) listed a w := by
  intro m
  induction m with
  | zero =>
    intro listed a w hm I
    have hall : ∀ i, i < n → listed.getD i true = true := fun i hi => by
      have := List.countP_eq_zero.1 hm i (List.mem_range.2 hi)
      simpa using this
    have hls : listed.size = l.length := by simpa using I.head.size
    have hle := S.le
    have hlisted : listed = ((List.range l.length).map (fun i => decide (i < n))).toArray := by
      apply Array.ext
      · simp [hls]
      · intro i h1 h2
        simp only [List.getElem_toArray, List.getElem_map, List.getElem_range]
        by_cases hi : i < n
        · have := hall i hi
          simp [h1] at this
          rw [this]; simp [hi]
        · have := I.head.tail i (by omega) (by simpa [hls] using h1)
          simp [h1] at this
          rw [this]; simp [hi]
    have ha : a = putAll D (fun i => a.eval (.tmp (D.getD i 0))) n a0 := by
      have ht : a.tmps = (putAll D (fun i => a.eval (.tmp (D.getD i 0))) n a0).tmps := by
        apply Array.ext_getElem?
        intro t
        by_cases ht : t ∈ D
        · obtain ⟨i, hi, rfl⟩ := List.getElem_of_mem ht
          have hi' : i < n := by rw [← S.len]; exact hi
          have e1 : D[i] = D.getD i 0 := by rw [List.getD_eq_getElem?_getD, List.getElem?_eq_getElem hi, Option.getD_some]
          have hlt := S.lt i hi'
          rw [e1, putAll_at D _ a0 n i hi' S.inj (by rw [hsz]; exact hlt)]
          have hb : D.getD i 0 < a.tmps.size := by rw [I.size, hsz]; exact hlt
          rw [Array.getElem?_eq_getElem hb]
          simp only [Act.eval]
          rw [Array.getD_eq_getD_getElem?, Array.getElem?_eq_getElem hb, Option.getD_some]
        · rw [I.other t ht, putAll_other]
          intro i hi e
          refine ht ?_
          rw [← e, List.getD_eq_getElem?_getD, List.getElem?_eq_getElem (by rw [S.len]; exact hi), Option.getD_some]
          exact List.getElem_mem _
      have hd : a.defers = (putAll D (fun i => a.eval (.tmp (D.getD i 0))) n a0).defers := by rw [putAll_defers, I.defers]
      generalize putAll D (fun i => a.eval (.tmp (D.getD i 0))) n a0 = b at ht hd
      cases a; cases b
      simp only at ht hd
      subst ht; subst hd
      rfl
    have hw := hend (fun i => a.eval (.tmp (D.getD i 0))) w I.below (fun i hi => I.holds i hi (getD_of_true (hall i hi) (by rw [hls]; omega)))
    rw [← ha] at hw
    have hq := wpAny_of_seq (md := .any) (Q' := Q) (l.drop n) n listed a w (fun j => by simp [List.getElem?_drop]) (by rw [List.length_drop, hlisted]; exact S.seq) hw
    rw [List.length_drop] at hq
    rw [Nat.zero_add]
    exact hq
  | succ m ih =>
    intro listed a w hm I
    have hls : listed.size = l.length := by simpa using I.head.size
    have hle := S.le
    rw [show m + 1 + (l.length - n) = (m + (l.length - n)) + 1 by omega]
    obtain ⟨i0, hi0, hun0⟩ : ∃ i, i < n ∧ listed.getD i true = false := by
      obtain ⟨i, hi, hp⟩ := List.countP_pos_iff.1 (show 0 < (List.range n).countP (fun i => !listed.getD i true) by omega)
      exact ⟨i, List.mem_range.1 hi, by simpa using hp⟩
    -- the least one that has not come up is ready
    obtain ⟨k, ⟨hk, hku⟩, hmin⟩ : ∃ k, (k < n ∧ listed.getD k true = false) ∧ ∀ j, j < k → ¬ (j < n ∧ listed.getD j true = false) := least_one (fun k => k < n ∧ listed.getD k true = false) i0 ⟨hi0, hun0⟩
    have hkr : k ∈ Region.ready .any l.toArray listed := by
      obtain ⟨o, ho, _, _, haft, _⟩ := S.op k hk
      refine mem_ready.2 ⟨hku, o, by simpa using ho, fun e he hb => ?_⟩
      have h1 := haft e he hb
      have h2 := hmin e.on h1
      have h3 : listed.getD e.on true = true := by
        by_cases h : listed.getD e.on true = true
        · exact h
        · exact absurd ⟨by omega, by simpa using h⟩ h2
      exact getD_of_true h3 (by rw [hls]; omega)
    clear i0 hi0 hun0
    by_cases hall : ∃ i, i < n ∧ listed.getD i true = false ∧ i ∉ L
    case neg =>
      -- only such as may be late are left of the head: the least one is taken first
      have hkL : k ∈ L := by
        by_cases h : k ∈ L
        · exact h
        · exact absurd ⟨k, hk, hku, h⟩ hall
      obtain ⟨o, ho, hg, hd, _, _⟩ := S.op k hk
      have ho2 : l.toArray[k]? = some o := by simpa using ho
      obtain ⟨hkm, hlk⟩ := hlate k hkL hk o ho
      obtain ⟨v, hrun, hv⟩ := hlk a.eval w (fun _ => rfl) (fun t ht => by simp only [Act.eval, Array.getD_eq_getD_getElem?, I.other t ht]) I.below (I.facts S hkr hk)
      obtain ⟨hc', I'⟩ := I.put S hsz hW hkr hk v w hv (by rw [if_neg hkm]; exact Below.refl _ _)
      refine wpAny_first ho2 (Region.noSelect_spec S.sel) (fun c a w => hQ k hkL c a _ v w) _ listed a w ?_ hkr (.inl ⟨wanted_none hg _, hrun⟩) ?_
      · intro j oj hj hne hun hno
        obtain ⟨_, o', ho', hready⟩ := mem_ready.1 hkr
        obtain rfl : o' = o := Option.some.inj (ho'.symm.trans ho2)
        rcases S.late k hkL o' ho j oj (by simpa using hj) hne with h | h | h
        · obtain ⟨oj', hoj', e, he, hb, hon⟩ := Region.waitsFor_spec h
          obtain rfl : oj' = oj := Option.some.inj (hoj'.symm.trans hj)
          exact absurd hon (hno e he hb)
        · obtain ⟨o2, ho2', e, he, hb, hon⟩ := Region.waitsFor_spec h
          obtain rfl : o2 = o' := Option.some.inj (ho2'.symm.trans ho2)
          have := hready e he hb
          rw [hon, getD_both hun] at this
          cases this
        · exact h
      · rw [hd]
        exact ih _ _ _ (by omega) I'
    obtain ⟨i0, hi0, hun0, hi0L⟩ := hall
    refine ⟨fun hnil => ?_, fun i hi => ?_⟩
    · rw [hnil] at hkr
      cases hkr
    · have hin : i < n := by
        rcases S.tail with ht | ⟨hs, hc⟩
        · obtain ⟨_, o, ho, _⟩ := mem_ready.1 hi
          have := (Array.getElem?_eq_some_iff.1 ho).1
          simp at this
          omega
        · by_cases hn : n < l.length
          · by_cases h : i < n
            · exact h
            · exact absurd hi (head_first hs hc I.head I.early _ i0 rfl hi0 hi0L hun0 i (by omega))
          · obtain ⟨_, o, ho, _⟩ := mem_ready.1 hi
            have := (Array.getElem?_eq_some_iff.1 ho).1
            simp at this
            omega
      obtain ⟨o, ho, hg, hd, _, _⟩ := S.op i hin
      have ho2 : l.toArray[i]? = some o := by simpa using ho
      have hspec := opsOk_get (l.take n) 0 js hop i o (by rw [List.getElem?_take_of_lt hin]; exact ho)
      rw [Nat.zero_add] at hspec
      have hρ : ∀ t, t ∉ D → a.eval (.tmp t) = a0.eval (.tmp t) := fun t ht => by simp only [Act.eval, Array.getD_eq_getD_getElem?, I.other t ht]
      have hgv : gives P o a.eval w fun v w' => Ψ i v w' ∧ (if i = mv then M w w' else Below w.heap.size w w') := by
        by_cases him : i = mv
        · rw [if_pos him] at hspec
          simp only [if_pos him]
          exact hspec a.eval w (fun _ => rfl) (fun _ => rfl) hρ (I.first (by rw [← him]; exact getD_both (mem_ready.1 hi).1)) (I.facts S hi hin)
        · rw [if_neg him] at hspec
          simp only [if_neg him]
          exact hspec a.eval w (fun _ => rfl) (fun _ => rfl) hρ I.below (I.facts S hi hin)
      unfold wpOp
      simp only [ho2, wanted_none hg, if_true]
      refine .inl (wp_of_gives hgv fun v w' ⟨hv, hb⟩ => ?_)
      obtain ⟨hc', I'⟩ := I.put S hsz hW hi hin v w' hv hb
      rw [hd]
      exact ih _ _ _ (by omega) I'

/-- all of it, as the walk's orders ask it -/
theorem any_moved (n : Nat) (D : List Tmp) (js : List (List (Nat × Tmp))) (L : List Nat) (Ψ : Nat → Value → World → Prop) (m : Nat) (G : World → Prop) (M : World → World → Prop) (hB : tableB l n a0.tmps.size D js [] L = true)
    (hW : Way m W0 G M Ψ) (hop : opsOk m G M P D a0 W0 Ψ 0 js (l.take n)) (hQ : ∀ i ∈ L, ∀ c (a : Act) d v w, Q (.panic c) (a.put d v) w → Q (.panic c) a w) (hlate : ∀ i ∈ L, i < n → ∀ o, l[i]? = some o → i ≠ m ∧ lateOk G P D a0 Ψ i (js.getD i []) o)
    (hend : ∀ (x : Nat → Value) (w : World), G w → (∀ i, i < n → Ψ i (x i) w) → wpList P l.toArray Q (l.drop n) (putAll D x n a0) w) :
    wpAny P .any l.toArray Q l.toArray.size (Array.replicate l.toArray.size false) a0 { W0 with drawn := W0.drawn + 1 } := by
  have S := tableB_spec hB
  have h := mid_any S rfl hW hop hQ hlate hend ((List.range n).countP (fun i => !(Array.replicate l.length false).getD i true)) (Array.replicate l.length false) a0 { W0 with drawn := W0.drawn + 1 } rfl
    ⟨⟨by simp, fun j oj _ hl => (by rw [getD_replicate_false] at hl; cases hl), fun t _ ht => getD_in (by simpa using ht) (getD_replicate_false _ _)⟩, hW.start _ (Below.refl _ W0).drew, fun _ => (Below.refl _ W0).drew, rfl, rfl, fun _ _ => rfl, fun _ h => (by cases h), fun i _ hl => (by rw [getD_replicate_false] at hl; cases hl)⟩
  have hc : (List.range n).countP (fun i => !(Array.replicate l.length false).getD i true) = n := by
    rw [List.countP_eq_length.2]
    · simp
    · intro i hi
      have hi' : i < l.length := Nat.lt_of_lt_of_le (List.mem_range.1 hi) S.le
      simp [hi']
  rw [hc, show n + (l.length - n) = l.toArray.size by have := S.le; simp; omega] at h
  simpa using h
/-- the same, of a table without a mover -/
theorem any_table (n : Nat) (D : List Tmp) (js : List (List (Nat × Tmp))) (L : List Nat) (Ψ : Nat → Value → World → Prop) (hB : tableB l n a0.tmps.size D js [] L = true)
    (hΨ : ∀ i v w w', Ψ i v w → Below w.heap.size w w' → Ψ i v w') (hop : Ytnoegbdmjinfjaa.opsOk P D a0 W0 Ψ 0 js (l.take n)) (hQ : ∀ i ∈ L, ∀ c (a : Act) d v w, Q (.panic c) (a.put d v) w → Q (.panic c) a w) (hlate : ∀ i ∈ L, i < n → ∀ o, l[i]? = some o → Ytnoegbdmjinfjaa.lateOk P D a0 W0 Ψ i (js.getD i []) o)
    (hend : ∀ (x : Nat → Value) (w : World), Below W0.heap.size W0 w → (∀ i, i < n → Ψ i (x i) w) → wpList P l.toArray Q (l.drop n) (putAll D x n a0) w) :
    wpAny P .any l.toArray Q l.toArray.size (Array.replicate l.toArray.size false) a0 { W0 with drawn := W0.drawn + 1 } := by
  have S := tableB_spec hB
  have h := Ytnoegbdmjinfjaa.mid_any S rfl hΨ hop hQ hlate hend ((List.range n).countP (fun i => !(Array.replicate l.length false).getD i true)) (Array.replicate l.length false) a0 { W0 with drawn := W0.drawn + 1 } rfl
    ⟨⟨by simp, fun j oj _ hl => (by rw [getD_replicate_false] at hl; cases hl), fun t _ ht => getD_in (by simpa using ht) (getD_replicate_false _ _)⟩, (Below.refl _ W0).drew, rfl, rfl, fun _ _ => rfl, fun _ h => (by cases h), fun i _ hl => (by rw [getD_replicate_false] at hl; cases hl)⟩
  have hc : (List.range n).countP (fun i => !(Array.replicate l.length false).getD i true) = n := by
    rw [List.countP_eq_length.2]
    · simp
    · intro i hi
      have hi' : i < l.length := Nat.lt_of_lt_of_le (List.mem_range.1 hi) S.le
      simp [hi']
  rw [hc, show n + (l.length - n) = l.toArray.size by have := S.le; simp; omega] at h
  simpa using h
/-- **a region that draws its order, with a mover, by a table** -/
theorem wp_region {id : Nat} (n : Nat) (D : List Tmp) (js : List (List (Nat × Tmp))) (L : List Nat) (Ψ : Nat → Value → World → Prop) (m : Nat) (G : World → Prop) (M : World → World → Prop) (hm : P.follows .mixedOrders = true) (hB : tableB l n a0.tmps.size D js [] L = true)
    (hW : Way m W0 G M Ψ) (hop : opsOk m G M P D a0 W0 Ψ 0 js (l.take n)) (hlate : ∀ i ∈ L, i < n → ∀ o, l[i]? = some o → i ≠ m ∧ lateOk G P D a0 Ψ i (js.getD i []) o)
    (hend : ∀ (x : Nat → Value) (w : World), G w → (∀ i, i < n → Ψ i (x i) w) → wpList P l.toArray (Calm Q) (l.drop n) (putAll D x n a0) w) :
    (Code.region id l.toArray true).wp P Q a0 W0 :=
  Code.wp_mono Calm.imp (wp_region_any (Q := Calm Q) hm (any_moved n D js L Ψ m G M hB hW hop (fun _ _ _ _ _ _ _ h => h.elim) hlate hend))

/-- an end that is normal, and nothing else -/
def Only (K : Act → World → Prop) : Exit → Act → World → Prop
  | .normal, a, w => K a w
  | _, _, _ => False
theorem Only.intro {K : Act → World → Prop} {a : Act} {w : World} (h : K a w) : Only K .normal a w := h
theorem Only.imp {Q : Exit → Act → World → Prop} : ∀ (e : Exit) (a : Act) (w : World), Only (Q .normal) e a w → Q e a w := fun e a w h => by
  cases e <;> first | exact h | exact (h : False).elim
def noDefer (ops : Array Oper) : Bool := ops.all fun o => match o.op with
  | .defer _ => false
  | _ => true
theorem noDefer_spec {ops : Array Oper} (h : noDefer ops = true) {i : Nat} {o : Oper} (ho : ops[i]? = some o) : ∀ c, o.op ≠ .defer c := by
  intro c e
  have hm : o ∈ ops := Array.mem_of_getElem? ho
  have := Array.all_eq_true_iff_forall_mem.1 h o hm
  rw [e] at this
  cases this
theorem rowsIn_wide {n : Nat} {row : String} {args : Array Value} {w : World} {R : Value → World → Prop} (h : Rows P row args w R) : RowsIn Fence.wide n P row args w R :=
  fun c cs _ => let ⟨v, w', r, s⟩ := h c cs; ⟨v, w', r, stepsIn_wide.2 s⟩
theorem wpOpIn_of {ops : Array Oper} {K : Act → World → Prop} (hd : noDefer ops = true) (lp m : Nat) {i : Nat} {K1 K2 : Act → World → Prop} (hK : ∀ a w, K1 a w → K2 a w) {a : Act} {w : World} (h : wpOp P ops (Only K) i K1 a w) : wpOpIn (Fence.wide.inRound lp) m P ops (Only K) i K2 a w := by
  unfold wpOp at h
  unfold wpOpIn
  cases ho : ops[i]? with
  | none =>
    simp only [ho] at h ⊢
    exact hK _ _ h
  | some o =>
    simp only [ho] at h ⊢
    by_cases hw : Region.wanted o (yielded ops a.tmps) = true
    · simp only [hw, if_true] at h ⊢
      rcases h with h | ⟨_, _, _, h⟩
      · refine ⟨fun _ _ => trivial, ?_⟩
        rw [Oper.semAt_eq _ _ _ (noDefer_spec hd ho)]
        unfold Oper.wp at h
        generalize (execOp a.eval o).run P w = r at *
        cases r with
        | ok x w' =>
          cases x <;> simp only [Oper.upon, Oper.uponIn] at h ⊢ <;>
            first
              | exact hK _ _ h
              | exact ⟨fun h => by simp [Fence.wide] at h, ((callsIn_wide.2 h).inRound lp).mono (fun e w'' he => by cases e <;> first | exact hK _ _ he | exact he)⟩
              | exact ⟨fun h => by simp [Fence.wide] at h, RowsIn.mono (rowsIn_wide (n := m - 1) h) (fun _ _ he => hK _ _ he)⟩
        | halt x w' => cases x <;> simp only [Oper.upon, Oper.uponIn] at h ⊢ <;> exact h
      · cases h
    · simp only [hw] at h ⊢
      exact ⟨fun _ _ => trivial, hK _ _ h⟩
theorem wpAnyIn_of {ops : Array Oper} {md : Region.Mode} {K : Act → World → Prop} (hd : noDefer ops = true) (lp m : Nat) : ∀ (fuel : Nat) (listed : Array Bool) (a : Act) (w : World), wpAny P md ops (Only K) fuel listed a w → wpAnyIn (Fence.wide.inRound lp) m P md ops (Only K) fuel listed a w
  | 0, _, _, _, h => h
  | fuel + 1, _, _, _, h => ⟨h.1, fun i hi => wpOpIn_of hd lp m (fun a w h => wpAnyIn_of hd lp m fuel _ a w h) (h.2 i hi)⟩
/-- **a region without a mover, in a round of a range over a function** -/
theorem wpIn_round {id lp k : Nat} (n : Nat) (D : List Tmp) (js : List (List (Nat × Tmp))) (L : List Nat) (Ψ : Nat → Value → World → Prop) (hm : P.follows .mixedOrders = true) (hd : noDefer l.toArray = true) (hB : tableB l n a0.tmps.size D js [] L = true)
    (hΨ : ∀ i v w w', Ψ i v w → Below w.heap.size w w' → Ψ i v w') (hop : Ytnoegbdmjinfjaa.opsOk P D a0 W0 Ψ 0 js (l.take n)) (hlate : ∀ i ∈ L, i < n → ∀ o, l[i]? = some o → Ytnoegbdmjinfjaa.lateOk P D a0 W0 Ψ i (js.getD i []) o)
    (hend : ∀ (x : Nat → Value) (w : World), Below W0.heap.size W0 w → (∀ i, i < n → Ψ i (x i) w) → wpList P l.toArray (Only (Q .normal)) (l.drop n) (putAll D x n a0) w) :
    (Code.region id l.toArray true).wpIn (Fence.wide.inRound lp) k P Q a0 W0 :=
  wpIn_mono (wpIn_region_any hm (wpAnyIn_of hd lp k _ _ _ _ (any_table n D js L Ψ hB hΨ hop (fun _ _ _ _ _ _ _ h => h.elim) hlate hend))) Only.imp
/-- **the same, with a mover** -/
theorem wpIn_round_moved {id lp k : Nat} (n : Nat) (D : List Tmp) (js : List (List (Nat × Tmp))) (L : List Nat) (Ψ : Nat → Value → World → Prop) (m : Nat) (G : World → Prop) (M : World → World → Prop) (hm : P.follows .mixedOrders = true) (hd : noDefer l.toArray = true) (hB : tableB l n a0.tmps.size D js [] L = true)
    (hW : Way m W0 G M Ψ) (hop : opsOk m G M P D a0 W0 Ψ 0 js (l.take n)) (hlate : ∀ i ∈ L, i < n → ∀ o, l[i]? = some o → i ≠ m ∧ lateOk G P D a0 Ψ i (js.getD i []) o)
    (hend : ∀ (x : Nat → Value) (w : World), G w → (∀ i, i < n → Ψ i (x i) w) → wpList P l.toArray (Only (Q .normal)) (l.drop n) (putAll D x n a0) w) :
    (Code.region id l.toArray true).wpIn (Fence.wide.inRound lp) k P Q a0 W0 :=
  wpIn_mono (wpIn_region_any hm (wpAnyIn_of hd lp k _ _ _ _ (any_moved n D js L Ψ m G M hB hW hop (fun _ _ _ _ _ _ _ h => h.elim) hlate hend))) Only.imp
end

end Go.Proofs.Ytnoegbdmjinfjaa.Moved
