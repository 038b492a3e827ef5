
/-
  A region that draws its order and makes memory: each operation of its head is shown by itself, from what the operations that it waits for have left; its tail is walked in order. No program is named here.
-/
import Derived.Test.YtiappeagdnkedaaOwn
import Derived.StillTail
import Derived.ArgAppend
namespace Go.Proofs.Ytiappeagdnkedaa
open Go.RowKit

/-- what an operation yields, and the world behind it -/
def gives (P : Program) (o : Oper) (ρ : Operand → Value) (w : World) (R : Value → World → Prop) : Prop :=
  match (execOp ρ o).run P w with
  | .ok (.value v) w' => R v w'
  | .ok (.enter f args) w' => Calls P f args w' (fun e w'' => ∃ v, e = .returned v ∧ R v w'')
  | _ => False
theorem wp_of_gives {P : Program} {o : Oper} {a : Act} {w : World} {R : Value → World → Prop} {K : Act → World → Prop} {Q : Exit → Act → World → Prop}
    (h : gives P o a.eval w R) (hK : ∀ v w', R v w' → K (a.put o.dst v) w') : o.wp P a w K Q := by
  unfold gives at h
  unfold Oper.wp
  generalize (execOp a.eval o).run P w = r at *
  cases r with
  | ok n w' =>
    cases n <;> simp only [Oper.upon] at h ⊢
    case value v => exact hK _ _ h
    case enter f args => exact h.mono fun e w'' ⟨v, he, hR⟩ => by subst he; exact hK _ _ hR
  | halt x w' => simp at h

/-- the frame behind the head: each destination holds its value -/
def putAll (D : List Tmp) (x : Nat → Value) : Nat → Act → Act
  | 0, a => a
  | k + 1, a => (putAll D x k a).put (some (D.getD k 0)) (x k)
theorem putAll_size (D : List Tmp) (x : Nat → Value) (k : Nat) (a : Act) : (putAll D x k a).tmps.size = a.tmps.size := by
  induction k with
  | zero => rfl
  | succ k ih => simp [putAll, Act.put, ih]
theorem putAll_defers (D : List Tmp) (x : Nat → Value) (k : Nat) (a : Act) : (putAll D x k a).defers = a.defers := by
  induction k with
  | zero => rfl
  | succ k ih => simp [putAll, Act.put, ih]
theorem putAll_other (D : List Tmp) (x : Nat → Value) (a : Act) (t : Tmp) : ∀ k, (∀ i, i < k → D.getD i 0 ≠ t) → (putAll D x k a).tmps[t]? = a.tmps[t]? := by
  intro k
  induction k with
  | zero => intro _; rfl
  | succ k ih =>
    intro h
    have h1 := h k (by omega)
    simp only [putAll, Act.put]
    rw [Array.getElem?_setIfInBounds_ne h1]
    exact ih fun i hi => h i (by omega)
theorem putAll_at (D : List Tmp) (x : Nat → Value) (a : Act) : ∀ k i, i < k → (∀ i j, i < k → j < k → D.getD i 0 = D.getD j 0 → i = j) → D.getD i 0 < a.tmps.size → (putAll D x k a).tmps[D.getD i 0]? = some (x i) := by
  intro k
  induction k with
  | zero => intro i hi; omega
  | succ k ih =>
    intro i hi hd hb
    simp only [putAll, Act.put]
    by_cases hik : i = k
    · subst hik
      rw [Array.getElem?_setIfInBounds_self_of_lt]
      rw [putAll_size]; exact hb
    · rw [Array.getElem?_setIfInBounds_ne (fun e => hik (hd i k (by omega) (by omega) e.symm))]
      exact ih i (by omega) (fun i j h1 h2 => hd i j (by omega) (by omega)) hb

/-- what is asked of the region's shape: the kernel reckons it -/
def sinkE (ops : Array Oper) (n : Nat) (E L : List Nat) : Bool := (List.range n).all fun i => E.contains i || L.contains i || (List.range (n + 1)).any fun j => decide (i < j) && !L.contains j && Region.waitsFor .any ops j i
/-- an operation that may be late: every other one waits for it, or it for that, or they are apart -/
def lateB (l : List Oper) (L : List Nat) : Bool := L.all fun i => match l[i]? with
  | some oi => (List.range l.length).all fun j => j == i || Region.waitsFor .any l.toArray j i || Region.waitsFor .any l.toArray i j || (match l[j]? with | some oj => oi.apart l.toArray oj | none => true)
  | none => false
def tableB (l : List Oper) (n sz : Nat) (D : List Tmp) (js : List (List (Nat × Tmp))) (E L : List Nat) : Bool :=
  decide (n ≤ l.length) && decide (D.length = n) && decide (D.Nodup) && D.all (fun d => decide (d < sz)) &&
  (List.range n).all (fun i => match l[i]? with
    | some o => o.guard.isNone && o.dst == some (D.getD i 0) && o.after.all (fun e => !Region.binds .any e || decide (e.on < i)) && (js.getD i []).all (fun p => decide (p.1 < n) && (E.contains p.1 || Region.waitsFor .any l.toArray i p.1) && p.2 == D.getD p.1 0)
    | none => false) &&
  (decide (n = l.length) || sinkE l.toArray n E L && Region.chainB .any l.toArray n) && Region.noSelect l.toArray && lateB l L &&
  Region.seqB .any l.toArray (l.length - n) n ((List.range l.length).map (fun i => decide (i < n))).toArray

/-- one operation of the head, by itself -/
def opOk (P : Program) (D : List Tmp) (a0 : Act) (W0 : World) (Ψ : Nat → Value → World → Prop) (i : Nat) (js : List (Nat × Tmp)) (o : Oper) : Prop :=
  ∀ (ρ : Operand → Value) (w : World), (∀ v, ρ (.const v) = v) → (∀ f, ρ (.func f) = .func (.func f) #[] #[]) → (∀ t, t ∉ D → ρ (.tmp t) = a0.eval (.tmp t)) → Below W0.heap.size W0 w → (∀ p ∈ js, Ψ p.1 (ρ (.tmp p.2)) w) →
    gives P o ρ w fun v w' => Ψ i v w' ∧ Below w.heap.size w w'
/-- one that may be late: it yields in whatever world -/
def lateOk (P : Program) (D : List Tmp) (a0 : Act) (W0 : World) (Ψ : Nat → Value → World → Prop) (i : Nat) (js : List (Nat × Tmp)) (o : Oper) : Prop :=
  ∀ (ρ : Operand → Value) (w : World), (∀ v, ρ (.const v) = v) → (∀ t, t ∉ D → ρ (.tmp t) = a0.eval (.tmp t)) → Below W0.heap.size W0 w → (∀ p ∈ js, Ψ p.1 (ρ (.tmp p.2)) w) →
    ∃ v, (∀ w', (execOp ρ o).run P w' = .ok (.value v) w') ∧ Ψ i v w
theorem lateOk.opOk {P : Program} {D : List Tmp} {a0 : Act} {W0 : World} {Ψ : Nat → Value → World → Prop} {i : Nat} {js : List (Nat × Tmp)} {o : Oper} (h : lateOk P D a0 W0 Ψ i js o) : opOk P D a0 W0 Ψ i js o := by
  intro ρ w hc _ ho hB hj
  obtain ⟨v, hr, hv⟩ := h ρ w hc ho hB hj
  unfold gives
  rw [hr w]
  exact ⟨hv, Below.refl _ _⟩
def opsOk (P : Program) (D : List Tmp) (a0 : Act) (W0 : World) (Ψ : Nat → Value → World → Prop) : Nat → List (List (Nat × Tmp)) → List Oper → Prop
  | i, js :: jss, o :: l => opOk P D a0 W0 Ψ i js o ∧ opsOk P D a0 W0 Ψ (i + 1) jss l
  | i, [], o :: l => opOk P D a0 W0 Ψ i [] o ∧ opsOk P D a0 W0 Ψ (i + 1) [] l
  | _, _, [] => True
theorem opsOk_get {P : Program} {D : List Tmp} {a0 : Act} {W0 : World} {Ψ : Nat → Value → World → Prop} : ∀ (l : List Oper) (k : Nat) (jss : List (List (Nat × Tmp))), opsOk P D a0 W0 Ψ k jss l → ∀ i o, l[i]? = some o → opOk P D a0 W0 Ψ (k + i) (jss.getD i []) o
  | [], _, _, _, i, o, h => by simp at h
  | o :: l, k, [], h, 0, _, e => by simp at e; subst e; simpa using h.1
  | o :: l, k, js :: jss, h, 0, _, e => by simp at e; subst e; simpa using h.1
  | o :: l, k, [], h, i + 1, o', e => by
    have := opsOk_get l (k + 1) [] h.2 i o' (by simpa using e)
    simpa [Nat.add_assoc, Nat.add_comm 1 i] using this
  | o :: l, k, js :: jss, h, i + 1, o', e => by
    have := opsOk_get l (k + 1) jss h.2 i o' (by simpa using e)
    simpa [Nat.add_assoc, Nat.add_comm 1 i] using this

theorem countP_flip (p q : Nat → Bool) (i : Nat) (hp : p i = true) (hq : q i = false) (ho : ∀ j, j ≠ i → q j = p j) : ∀ r : List Nat, r.Nodup → i ∈ r → r.countP p = r.countP q + 1
  | [], _, h => by simp at h
  | j :: r, hn, h => by
    have hn' := List.nodup_cons.1 hn
    by_cases hj : j = i
    · subst hj
      have : r.countP p = r.countP q := List.countP_congr fun k hk => by rw [ho k (fun e => hn'.1 (e ▸ hk))]
      rw [List.countP_cons, List.countP_cons, this, hp, hq]
      simp
    · have hi : i ∈ r := by
        rcases List.mem_cons.1 h with h | h
        · exact absurd h.symm hj
        · exact h
      rw [List.countP_cons, List.countP_cons, countP_flip p q i hp hq ho r hn'.2 hi, ho j hj]
      omega

theorem least_one (p : Nat → Prop) : ∀ i, p i → ∃ k, p k ∧ ∀ j, j < k → ¬ p j := fun i => by
  induction i using Nat.strongRecOn with
  | _ i ih =>
    intro h
    by_cases h2 : ∃ j, j < i ∧ p j
    · obtain ⟨j, hj, hp⟩ := h2
      exact ih j hj hp
    · exact ⟨i, h, fun j hj hp => h2 ⟨j, hj, hp⟩⟩
theorem getD_of_true {listed : Array Bool} {i : Nat} (h : listed.getD i true = true) (hi : i < listed.size) : listed.getD i false = true := by
  simp [hi] at h ⊢; exact h
section
variable {P : Program} {l : List Oper} {n : Nat} {D : List Tmp} {js : List (List (Nat × Tmp))} {E L : List Nat} {a0 : Act} {W0 : World} {Ψ : Nat → Value → World → Prop} {Q : Exit → Act → World → Prop}
structure Shape (l : List Oper) (n sz : Nat) (D : List Tmp) (js : List (List (Nat × Tmp))) (E L : List Nat) : Prop where
  le : n ≤ l.length
  len : D.length = n
  inj : ∀ i j, i < n → j < n → D.getD i 0 = D.getD j 0 → i = j
  lt : ∀ i, i < n → D.getD i 0 < sz
  op : ∀ i, i < n → ∃ o, l[i]? = some o ∧ o.guard = none ∧ o.dst = some (D.getD i 0) ∧ (∀ e ∈ o.after, Region.binds .any e = true → e.on < i) ∧
    ∀ p ∈ js.getD i [], p.1 < n ∧ (p.1 ∈ E ∨ Region.waitsFor .any l.toArray i p.1 = true) ∧ p.2 = D.getD p.1 0
  sel : Region.noSelect l.toArray = true
  late : ∀ i ∈ L, ∀ oi, l[i]? = some oi → ∀ j oj, l[j]? = some oj → j ≠ i → Region.waitsFor .any l.toArray j i = true ∨ Region.waitsFor .any l.toArray i j = true ∨ oi.apart l.toArray oj = true
  tail : n = l.length ∨ (sinkE l.toArray n E L = true ∧ Region.chainB .any l.toArray n = true)
  seq : Region.seqB .any l.toArray (l.length - n) n ((List.range l.length).map (fun i => decide (i < n))).toArray = true
theorem tableB_spec {sz : Nat} (h : tableB l n sz D js E L = true) : Shape l n sz D js E L := by
  simp only [tableB, Bool.and_eq_true, decide_eq_true_eq, List.all_eq_true, Bool.or_eq_true] at h
  obtain ⟨⟨⟨⟨⟨⟨⟨⟨h1, h2⟩, h3⟩, h4⟩, h5⟩, h6⟩, h8⟩, h9⟩, h7⟩ := h
  refine ⟨h1, h2, ?_, ?_, ?_, h8, ?_, h6, h7⟩
  rotate_left 3
  · intro i hi oi ho j oj hj hne
    have := List.all_eq_true.1 h9 i hi
    rw [ho] at this
    have := List.all_eq_true.1 this j (List.mem_range.2 (List.getElem?_eq_some_iff.1 hj).1)
    rw [hj] at this
    simp only [Bool.or_eq_true, beq_iff_eq] at this
    rcases this with ((h | h) | h) | h
    · exact absurd h hne
    · exact .inl h
    · exact .inr (.inl h)
    · exact .inr (.inr h)
  · intro i j hi hj e
    rw [List.getD_eq_getElem?_getD, List.getD_eq_getElem?_getD, List.getElem?_eq_getElem (by omega), List.getElem?_eq_getElem (by omega), Option.getD_some, Option.getD_some] at e
    have hp := List.pairwise_iff_getElem.1 h3
    rcases Nat.lt_trichotomy i j with h | h | h
    · exact absurd e (hp i j (by omega) (by omega) h)
    · exact h
    · exact absurd e.symm (hp j i (by omega) (by omega) h)
  · intro i hi
    refine h4 _ ?_
    rw [List.getD_eq_getElem?_getD, List.getElem?_eq_getElem (by omega), Option.getD_some]
    exact List.getElem_mem _
  · intro i hi
    have := h5 i (List.mem_range.2 hi)
    split at this
    · rename_i o ho
      simp only [Bool.and_eq_true, Option.isNone_iff_eq_none, beq_iff_eq, Array.all_eq_true_iff_forall_mem, List.all_eq_true, decide_eq_true_eq, Bool.or_eq_true, Bool.not_eq_true'] at this
      obtain ⟨⟨⟨g1, g2⟩, g3⟩, g4⟩ := this
      refine ⟨o, ho, g1, g2, fun e he hb => (g3 e he).resolve_left (by simp [hb]), fun p hp => ?_⟩
      have := g4 p hp
      exact ⟨this.1.1, this.1.2.imp_left (by simp), this.2⟩
    · cases this

/-- where the head stands, in whatever order it has come so far -/
structure Mid (l : List Oper) (n : Nat) (D : List Tmp) (E : List Nat) (a0 : Act) (W0 : World) (Ψ : Nat → Value → World → Prop) (listed : Array Bool) (a : Act) (w : World) : Prop where
  head : HeadInv .any l.toArray n listed
  below : Below W0.heap.size W0 w
  size : a.tmps.size = a0.tmps.size
  defers : a.defers = a0.defers
  other : ∀ t, t ∉ D → a.tmps[t]? = a0.tmps[t]?
  early : ∀ i ∈ E, listed.getD i false = true
  holds : ∀ i, i < n → listed.getD i false = true → Ψ i (a.eval (.tmp (D.getD i 0))) w
/-- nothing of the tail comes up while something of the head is left -/
theorem head_first (hs : sinkE l.toArray n E L = true) (hc : Region.chainB .any l.toArray n = true) {listed : Array Bool} (inv : HeadInv .any l.toArray n listed) (he : ∀ i ∈ E, listed.getD i false = true) :
    ∀ (d i : Nat), n - i = d → i < n → i ∉ L → listed.getD i true = false → ∀ t, n ≤ t → t ∉ Region.ready .any l.toArray listed := by
  intro d
  induction d using Nat.strongRecOn with
  | _ d ih =>
    intro i hd hi hiL hun t ht hr
    obtain ⟨_, ot, hot, hall⟩ := mem_ready.1 hr
    have htlt : t < l.toArray.size := (Array.getElem?_eq_some_iff.1 hot).1
    by_cases htn : t = n
    · subst htn
      have h1 := List.all_eq_true.1 hs i (List.mem_range.2 hi)
      rw [Bool.or_eq_true, Bool.or_eq_true] at h1
      rcases h1 with (h1 | h1) | h1
      · have := he i (by simpa using h1)
        rw [getD_both hun] at this
        cases this
      · exact absurd (by simpa using h1) hiL
      · obtain ⟨j, hj, hj2⟩ := List.any_eq_true.1 h1
        simp only [Bool.and_eq_true, decide_eq_true_eq, Bool.not_eq_true'] at hj2
        have hjL : j ∉ L := by have := hj2.1.2; simpa using this
        obtain ⟨oj, hoj, e, hej, hb, hon⟩ := Region.waitsFor_spec hj2.2
        have hjle : j ≤ t := by have := List.mem_range.1 hj; omega
        by_cases hjt : j = t
        · subst hjt
          have : oj = ot := Option.some.inj (hoj.symm.trans hot)
          subst this
          have := hall e hej hb
          rw [hon, getD_both hun] at this
          cases this
        · have hjl : listed.getD j true = true := by
            by_cases h : listed.getD j true = true
            · exact h
            · exact absurd hr (ih (t - j) (by omega) j rfl (by omega) hjL (by simpa using h) t (Nat.le_refl _))
          have hjs : j < listed.size := by rw [inv.size]; omega
          have h2 := inv.closed j oj hoj (getD_of_true hjl hjs) e hej hb
          rw [hon, getD_both hun] at h2
          cases h2
    · have h1 := List.all_eq_true.1 hc t (List.mem_range.2 htlt)
      simp only [Bool.or_eq_true, decide_eq_true_eq] at h1
      rcases h1 with h1 | h1
      · omega
      · obtain ⟨oj, hoj, e, hej, hb, hon⟩ := Region.waitsFor_spec h1
        have : oj = ot := Option.some.inj (hoj.symm.trans hot)
        subst this
        have h2 := hall e hej hb
        have h3 := inv.tail (t - 1) (by omega) (by omega)
        rw [hon, getD_both h3] at h2
        cases h2

theorem wanted_none {o : Oper} (h : o.guard = none) (y : Nat → Option Bool) : Region.wanted o y = true := by simp [Region.wanted, h]

theorem Mid.facts {sz : Nat} {listed : Array Bool} {a : Act} {w : World} {i : Nat} (I : Mid l n D E a0 W0 Ψ listed a w) (S : Shape l n sz D js E L) (hi : i ∈ Region.ready .any l.toArray listed) (hin : i < n) : ∀ p ∈ js.getD i [], Ψ p.1 (a.eval (.tmp p.2)) w := by
  obtain ⟨o, ho, _, _, _, hjs⟩ := S.op i hin
  obtain ⟨_, o', ho', hready⟩ := mem_ready.1 hi
  have ho2 : l.toArray[i]? = some o := by simpa using ho
  obtain rfl : o' = o := Option.some.inj (ho'.symm.trans ho2)
  intro p hp
  obtain ⟨h1, h2, h3⟩ := hjs p hp
  rw [h3]
  refine I.holds p.1 h1 ?_
  rcases h2 with h2 | h2
  · exact I.early _ h2
  obtain ⟨oj, hoj, e, he, hb, hon⟩ := Region.waitsFor_spec h2
  have : oj = o' := Option.some.inj (hoj.symm.trans ho2)
  subst this
  rw [← hon]
  exact hready e he hb
/-- one more has come up -/
theorem Mid.put {sz : Nat} {listed : Array Bool} {a : Act} {w : World} {i : Nat} (I : Mid l n D E a0 W0 Ψ listed a w) (S : Shape l n sz D js E L) (hsz : a0.tmps.size = sz) (hΨ : ∀ i v w w', Ψ i v w → Below w.heap.size w w' → Ψ i v w')
    (hi : i ∈ Region.ready .any l.toArray listed) (hin : i < n) (v : Value) (w' : World) (hv : Ψ i v w') (hb : Below w.heap.size w w') :
    (List.range n).countP (fun j => !listed.getD j true) = (List.range n).countP (fun j => !(listed.setIfInBounds i true).getD j true) + 1 ∧ Mid l n D E a0 W0 Ψ (listed.setIfInBounds i true) (a.put (some (D.getD i 0)) v) w' := by
  have hls : listed.size = l.length := by simpa using I.head.size
  have hle := S.le
  have hiun := (mem_ready.1 hi).1
  refine ⟨?_, I.head.set hi hin, I.below.trans (hb.mono I.below.size), ?_, ?_, ?_, fun j hj => getD_set_true (I.early j hj), ?_⟩
  · exact countP_flip (fun j => !listed.getD j true) (fun j => !(listed.setIfInBounds i true).getD j true) i (by simp [hiun]) (by simp [show i < listed.size by rw [hls]; omega]) (fun j hj => by rw [getD_set_ne true (Ne.symm hj)]) (List.range n) List.nodup_range (List.mem_range.2 hin)
  · simp [Act.put, I.size]
  · simp [Act.put, I.defers]
  · intro t ht
    simp only [Act.put]
    rw [Array.getElem?_setIfInBounds_ne]
    · exact I.other t ht
    · intro e
      refine ht ?_
      rw [← e, List.getD_eq_getElem?_getD, List.getElem?_eq_getElem (by rw [S.len]; exact hin), Option.getD_some]
      exact List.getElem_mem _
  · intro j hj hlj
    by_cases hji : j = i
    · subst hji
      have : (a.put (some (D.getD j 0)) v).eval (.tmp (D.getD j 0)) = v := by
        simp only [Act.eval, Act.put]
        rw [Array.getD_eq_getD_getElem?, Array.getElem?_setIfInBounds_self_of_lt (by rw [I.size, hsz]; exact S.lt j hin), Option.getD_some]
      rw [this]
      exact hv
    · rw [getD_set_ne false (Ne.symm hji)] at hlj
      have : (a.put (some (D.getD i 0)) v).eval (.tmp (D.getD j 0)) = a.eval (.tmp (D.getD j 0)) := by
        refine Act.eval_put fun d hd' e => ?_
        simp only [Option.some.injEq] at hd'
        subst hd'
        simp only [Operand.tmp.injEq] at e
        exact hji (S.inj j i hj hin e)
      rw [this]
      exact hΨ _ _ _ _ (I.holds j hj hlj) hb

theorem mid_any {sz : Nat} (S : Shape l n sz D js E L) (hsz : a0.tmps.size = sz) (hΨ : ∀ i v w w', Ψ i v w → Below w.heap.size w w' → Ψ i v w') (hop : opsOk P D a0 W0 Ψ 0 js (l.take n)) (hQ : ∀ i ∈ L, ∀ c (a : Act) d v w, Q (.panic c) (a.put d v) w → Q (.panic c) a w) (hlate : ∀ i ∈ L, i < n → ∀ o, l[i]? = some o → lateOk P D a0 W0 Ψ i (js.getD i []) o)
    (hend : ∀ (x : Nat → Value) (w : World), Below W0.heap.size W0 w → (∀ i, i < n → Ψ i (x i) w) → wpList P l.toArray Q (l.drop n) (putAll D x n a0) w) :
    ∀ (m : Nat) (listed : Array Bool) (a : Act) (w : World), (List.range n).countP (fun i => !listed.getD i true) = m → Mid l n D E a0 W0 Ψ listed a w → wpAny P .any l.toArray Q (m + (l.length - n)) listed a w := by
  intro m
  induction m with
  | zero =>
    intro listed a w hm I
    have hall : ∀ i, i < n → listed.getD i true = true := fun i hi => by
      have := List.countP_eq_zero.1 hm i (List.mem_range.2 hi)
      simpa using this
    have hls : listed.size = l.length := by simpa using I.head.size
    have hle := S.le
    have hlisted : listed = ((List.range l.length).map (fun i => decide (i < n))).toArray := by
      apply Array.ext
      · simp [hls]
      · intro i h1 h2
        simp only [List.getElem_toArray, List.getElem_map, List.getElem_range]
        by_cases hi : i < n
        · have := hall i hi
          simp [h1] at this
          rw [this]; simp [hi]
        · have := I.head.tail i (by omega) (by simpa [hls] using h1)
          simp [h1] at this
          rw [this]; simp [hi]
    have ha : a = putAll D (fun i => a.eval (.tmp (D.getD i 0))) n a0 := by
      have ht : a.tmps = (putAll D (fun i => a.eval (.tmp (D.getD i 0))) n a0).tmps := by
        apply Array.ext_getElem?
        intro t
        by_cases ht : t ∈ D
        · obtain ⟨i, hi, rfl⟩ := List.getElem_of_mem ht
          have hi' : i < n := by rw [← S.len]; exact hi
          have e1 : D[i] = D.getD i 0 := by rw [List.getD_eq_getElem?_getD, List.getElem?_eq_getElem hi, Option.getD_some]
          have hlt := S.lt i hi'
          rw [e1, putAll_at D _ a0 n i hi' S.inj (by rw [hsz]; exact hlt)]
          have hb : D.getD i 0 < a.tmps.size := by rw [I.size, hsz]; exact hlt
          rw [Array.getElem?_eq_getElem hb]
          simp only [Act.eval]
          rw [Array.getD_eq_getD_getElem?, Array.getElem?_eq_getElem hb, Option.getD_some]
        · rw [I.other t ht, putAll_other]
          intro i hi e
          refine ht ?_
          rw [← e, List.getD_eq_getElem?_getD, List.getElem?_eq_getElem (by rw [S.len]; exact hi), Option.getD_some]
          exact List.getElem_mem _
      have hd : a.defers = (putAll D (fun i => a.eval (.tmp (D.getD i 0))) n a0).defers := by rw [putAll_defers, I.defers]
      generalize putAll D (fun i => a.eval (.tmp (D.getD i 0))) n a0 = b at ht hd
      cases a; cases b
      simp only at ht hd
      subst ht; subst hd
      rfl
    have hw := hend (fun i => a.eval (.tmp (D.getD i 0))) w I.below (fun i hi => I.holds i hi (getD_of_true (hall i hi) (by rw [hls]; omega)))
    rw [← ha] at hw
    have hq := wpAny_of_seq (md := .any) (Q' := Q) (l.drop n) n listed a w (fun j => by simp [List.getElem?_drop]) (by rw [List.length_drop, hlisted]; exact S.seq) hw
    rw [List.length_drop] at hq
    rw [Nat.zero_add]
    exact hq
  | succ m ih =>
    intro listed a w hm I
    have hls : listed.size = l.length := by simpa using I.head.size
    have hle := S.le
    rw [show m + 1 + (l.length - n) = (m + (l.length - n)) + 1 by omega]
    obtain ⟨i0, hi0, hun0⟩ : ∃ i, i < n ∧ listed.getD i true = false := by
      obtain ⟨i, hi, hp⟩ := List.countP_pos_iff.1 (show 0 < (List.range n).countP (fun i => !listed.getD i true) by omega)
      exact ⟨i, List.mem_range.1 hi, by simpa using hp⟩
    -- the least one that has not come up is ready
    obtain ⟨k, ⟨hk, hku⟩, hmin⟩ : ∃ k, (k < n ∧ listed.getD k true = false) ∧ ∀ j, j < k → ¬ (j < n ∧ listed.getD j true = false) := least_one (fun k => k < n ∧ listed.getD k true = false) i0 ⟨hi0, hun0⟩
    have hkr : k ∈ Region.ready .any l.toArray listed := by
      obtain ⟨o, ho, _, _, haft, _⟩ := S.op k hk
      refine mem_ready.2 ⟨hku, o, by simpa using ho, fun e he hb => ?_⟩
      have h1 := haft e he hb
      have h2 := hmin e.on h1
      have h3 : listed.getD e.on true = true := by
        by_cases h : listed.getD e.on true = true
        · exact h
        · exact absurd ⟨by omega, by simpa using h⟩ h2
      exact getD_of_true h3 (by rw [hls]; omega)
    clear i0 hi0 hun0
    by_cases hall : ∃ i, i < n ∧ listed.getD i true = false ∧ i ∉ L
    case neg =>
      -- only such as may be late are left of the head: the least one is taken first
      have hkL : k ∈ L := by
        by_cases h : k ∈ L
        · exact h
        · exact absurd ⟨k, hk, hku, h⟩ hall
      obtain ⟨o, ho, hg, hd, _, _⟩ := S.op k hk
      have ho2 : l.toArray[k]? = some o := by simpa using ho
      obtain ⟨v, hrun, hv⟩ := hlate k hkL hk o ho a.eval w (fun _ => rfl) (fun t ht => by simp only [Act.eval, Array.getD_eq_getD_getElem?, I.other t ht]) I.below (I.facts S hkr hk)
      obtain ⟨hc', I'⟩ := I.put S hsz hΨ hkr hk v w hv (Below.refl _ _)
      refine wpAny_first ho2 (Region.noSelect_spec S.sel) (fun c a w => hQ k hkL c a _ v w) _ listed a w ?_ hkr (.inl ⟨wanted_none hg _, hrun⟩) ?_
      · intro j oj hj hne hun hno
        obtain ⟨_, o', ho', hready⟩ := mem_ready.1 hkr
        obtain rfl : o' = o := Option.some.inj (ho'.symm.trans ho2)
        rcases S.late k hkL o' ho j oj (by simpa using hj) hne with h | h | h
        · obtain ⟨oj', hoj', e, he, hb, hon⟩ := Region.waitsFor_spec h
          obtain rfl : oj' = oj := Option.some.inj (hoj'.symm.trans hj)
          exact absurd hon (hno e he hb)
        · obtain ⟨o2, ho2', e, he, hb, hon⟩ := Region.waitsFor_spec h
          obtain rfl : o2 = o' := Option.some.inj (ho2'.symm.trans ho2)
          have := hready e he hb
          rw [hon, getD_both hun] at this
          cases this
        · exact h
      · rw [hd]
        exact ih _ _ _ (by omega) I'
    obtain ⟨i0, hi0, hun0, hi0L⟩ := hall
    refine ⟨fun hnil => ?_, fun i hi => ?_⟩
    · rw [hnil] at hkr
      cases hkr
    · have hin : i < n := by
        rcases S.tail with ht | ⟨hs, hc⟩
        · obtain ⟨_, o, ho, _⟩ := mem_ready.1 hi
          have := (Array.getElem?_eq_some_iff.1 ho).1
          simp at this
          omega
        · by_cases hn : n < l.length
          · by_cases h : i < n
            · exact h
            · exact absurd hi (head_first hs hc I.head I.early _ i0 rfl hi0 hi0L hun0 i (by omega))
          · obtain ⟨_, o, ho, _⟩ := mem_ready.1 hi
            have := (Array.getElem?_eq_some_iff.1 ho).1
            simp at this
            omega
      obtain ⟨o, ho, hg, hd, _, _⟩ := S.op i hin
      have ho2 : l.toArray[i]? = some o := by simpa using ho
      have hspec := opsOk_get (l.take n) 0 js hop i o (by rw [List.getElem?_take_of_lt hin]; exact ho)
      rw [Nat.zero_add] at hspec
      have hgv := hspec a.eval w (fun _ => rfl) (fun _ => rfl) (fun t ht => by simp only [Act.eval, Array.getD_eq_getD_getElem?, I.other t ht]) I.below (I.facts S hi hin)
      unfold wpOp
      simp only [ho2, wanted_none hg, if_true]
      refine .inl (wp_of_gives hgv fun v w' ⟨hv, hb⟩ => ?_)
      obtain ⟨hc', I'⟩ := I.put S hsz hΨ hi hin v w' hv hb
      rw [hd]
      exact ih _ _ _ (by omega) I'

/-- **a region that draws its order, by a table** -/
theorem wp_region_table {id : Nat} (n : Nat) (D : List Tmp) (js : List (List (Nat × Tmp))) (Ψ : Nat → Value → World → Prop) (hm : P.follows .mixedOrders = true) (hB : tableB l n a0.tmps.size D js [] [] = true)
    (hΨ : ∀ i v w w', Ψ i v w → Below w.heap.size w w' → Ψ i v w') (hop : opsOk P D a0 W0 Ψ 0 js (l.take n))
    (hend : ∀ (x : Nat → Value) (w : World), Below W0.heap.size W0 w → (∀ i, i < n → Ψ i (x i) w) → wpList P l.toArray Q (l.drop n) (putAll D x n a0) w) :
    (Code.region id l.toArray true).wp P Q a0 W0 := by
  have S := tableB_spec hB
  refine wp_region_any hm ?_
  have h := mid_any S rfl hΨ hop (fun _ h => by cases h) (fun _ h => by cases h) hend ((List.range n).countP (fun i => !(Array.replicate l.length false).getD i true)) (Array.replicate l.length false) a0 { W0 with drawn := W0.drawn + 1 } rfl
    ⟨⟨by simp, fun j oj _ hl => (by rw [getD_replicate_false] at hl; cases hl), fun t _ ht => getD_in (by simpa using ht) (getD_replicate_false _ _)⟩, (Below.refl _ W0).drew, rfl, rfl, fun _ _ => rfl, fun _ h => (by cases h), fun i _ hl => (by rw [getD_replicate_false] at hl; cases hl)⟩
  have hc : (List.range n).countP (fun i => !(Array.replicate l.length false).getD i true) = n := by
    rw [List.countP_eq_length.2]
    · simp
    · intro i hi
      have hi' : i < l.length := Nat.lt_of_lt_of_le (List.mem_range.1 hi) S.le
      simp [hi']
  rw [hc, show n + (l.length - n) = l.toArray.size by have := S.le; simp; omega] at h
  simpa using h
/-- a post that leaves no panic -/
def Calm (Q : Exit → Act → World → Prop) : Exit → Act → World → Prop
  | .panic _, _, _ => False
  | e, a, w => Q e a w
theorem Calm.intro {Q : Exit → Act → World → Prop} {a : Act} {w : World} (h : Q .normal a w) : Calm Q .normal a w := h
theorem Calm.imp {Q : Exit → Act → World → Prop} : ∀ (e : Exit) (a : Act) (w : World), Calm Q e a w → Q e a w := fun e a w h => by
  cases e <;> first | exact h | exact (h : False).elim
/-- the same, where some operations that yield in whatever world may be late ('L': they need not come up ahead of the tail) -/
theorem wp_region_late {id : Nat} (n : Nat) (D : List Tmp) (js : List (List (Nat × Tmp))) (L : List Nat) (Ψ : Nat → Value → World → Prop) (hm : P.follows .mixedOrders = true) (hB : tableB l n a0.tmps.size D js [] L = true)
    (hΨ : ∀ i v w w', Ψ i v w → Below w.heap.size w w' → Ψ i v w') (hop : opsOk P D a0 W0 Ψ 0 js (l.take n)) (hlate : ∀ i ∈ L, i < n → ∀ o, l[i]? = some o → lateOk P D a0 W0 Ψ i (js.getD i []) o)
    (hend : ∀ (x : Nat → Value) (w : World), Below W0.heap.size W0 w → (∀ i, i < n → Ψ i (x i) w) → wpList P l.toArray (Calm Q) (l.drop n) (putAll D x n a0) w) :
    (Code.region id l.toArray true).wp P Q a0 W0 := by
  have S := tableB_spec hB
  refine Code.wp_mono Calm.imp (wp_region_any (Q := Calm Q) hm ?_)
  have h := mid_any S rfl hΨ hop (fun _ _ _ _ _ _ _ h => h.elim) hlate hend ((List.range n).countP (fun i => !(Array.replicate l.length false).getD i true)) (Array.replicate l.length false) a0 { W0 with drawn := W0.drawn + 1 } rfl
    ⟨⟨by simp, fun j oj _ hl => (by rw [getD_replicate_false] at hl; cases hl), fun t _ ht => getD_in (by simpa using ht) (getD_replicate_false _ _)⟩, (Below.refl _ W0).drew, rfl, rfl, fun _ _ => rfl, fun _ h => (by cases h), fun i _ hl => (by rw [getD_replicate_false] at hl; cases hl)⟩
  have hc : (List.range n).countP (fun i => !(Array.replicate l.length false).getD i true) = n := by
    rw [List.countP_eq_length.2]
    · simp
    · intro i hi
      have hi' : i < l.length := Nat.lt_of_lt_of_le (List.mem_range.1 hi) S.le
      simp [hi']
  rw [hc, show n + (l.length - n) = l.toArray.size by have := S.le; simp; omega] at h
  simpa using h
def earlyB (l : List Oper) (n : Nat) (E : List Nat) : Bool :=
  decide (E.Nodup) && E.all (fun i => decide (i < n)) && E.all (fun i => match l[i]? with
    | some o => o.after.all (fun e => !Region.binds .any e || decide (e.on ∈ E))
    | none => true)
theorem earlyB_spec {E : List Nat} (h : earlyB l n E = true) : E.Nodup ∧ (∀ i ∈ E, i < n) ∧ ∀ i ∈ E, ∀ o, l[i]? = some o → ∀ e ∈ o.after, Region.binds .any e = true → e.on ∈ E := by
  simp only [earlyB, Bool.and_eq_true, decide_eq_true_eq, List.all_eq_true] at h
  refine ⟨h.1.1, h.1.2, fun i hi o ho e he hb => ?_⟩
  have := h.2 i hi
  rw [ho] at this
  simp only [Array.all_eq_true_iff_forall_mem, Bool.or_eq_true, Bool.not_eq_true', decide_eq_true_eq] at this
  exact (this e he).resolve_left (by simp [hb])
/-- the same, where some operations that yield in whatever world have been taken first ('E': their numbers; 'ep': which of the region's operations have come up) -/
theorem wpAny_table (n : Nat) (D : List Tmp) (js : List (List (Nat × Tmp))) (E : List Nat) (Ψ : Nat → Value → World → Prop) (hB : tableB l n a0.tmps.size D js E [] = true) {listed : Array Bool}
    (hl : listed = ((List.range l.length).map (fun i => decide (i ∈ E))).toArray) (hE0 : earlyB l n E = true)
    (hh : ∀ i ∈ E, Ψ i (a0.eval (.tmp (D.getD i 0))) W0) {fuel : Nat} (hf : fuel + E.length = l.length)
    (hΨ : ∀ i v w w', Ψ i v w → Below w.heap.size w w' → Ψ i v w') (hop : opsOk P D a0 W0 Ψ 0 js (l.take n))
    (hend : ∀ (x : Nat → Value) (w : World), Below W0.heap.size W0 w → (∀ i, i < n → Ψ i (x i) w) → wpList P l.toArray Q (l.drop n) (putAll D x n a0) w) :
    wpAny P .any l.toArray Q fuel listed a0 W0 := by
  have S := tableB_spec hB
  have hE := earlyB_spec hE0
  have hle := S.le
  have hsz : listed.size = l.length := by rw [hl]; simp
  have hat : ∀ i, i < l.length → ∀ d, listed.getD i d = decide (i ∈ E) := fun i hi d => by rw [hl]; simp [hi]
  have hc : (List.range n).countP (fun i => !listed.getD i true) = n - E.length := by
    have h1 : (List.range n).countP (fun i => !listed.getD i true) = (List.range n).countP (fun i => !decide (i ∈ E)) := List.countP_congr fun i hi => by
      rw [hat i (by have := List.mem_range.1 hi; omega)]
    have h2 := List.length_eq_countP_add_countP (p := fun i => decide (i ∈ E)) (l := List.range n)
    have h3 : (List.range n).countP (fun i => decide (i ∈ E)) = E.length := by
      rw [List.countP_eq_length_filter]
      refine (List.Perm.length_eq ?_)
      refine (List.perm_ext_iff_of_nodup (List.Nodup.sublist List.filter_sublist List.nodup_range) hE.1).2 fun i => ?_
      simp only [List.mem_filter, List.mem_range, decide_eq_true_eq]
      exact ⟨fun h => h.2, fun h => ⟨hE.2.1 i h, h⟩⟩
    have h4 : (List.range n).countP (fun i => !decide (i ∈ E)) = (List.range n).countP (fun i => decide ¬ (decide (i ∈ E) = true)) := List.countP_congr fun i _ => by simp
    rw [List.length_range] at h2
    rw [h1, h4]
    omega
  have hlen : E.length ≤ n := by
    have := List.countP_le_length (p := fun i => decide (i ∈ E)) (l := List.range n)
    have h3 : (List.range n).countP (fun i => decide (i ∈ E)) = E.length := by
      rw [List.countP_eq_length_filter]
      refine (List.Perm.length_eq ?_)
      refine (List.perm_ext_iff_of_nodup (List.Nodup.sublist List.filter_sublist List.nodup_range) hE.1).2 fun i => ?_
      simp only [List.mem_filter, List.mem_range, decide_eq_true_eq]
      exact ⟨fun h => h.2, fun h => ⟨hE.2.1 i h, h⟩⟩
    rw [h3, List.length_range] at this
    exact this
  have h := mid_any S rfl hΨ hop (fun _ h => by cases h) (fun _ h => by cases h) hend (n - E.length) listed a0 W0 hc
    ⟨⟨by simpa using hsz, fun j oj hj hlj e he hb => by
        have hjl : j < l.length := by have := (Array.getElem?_eq_some_iff.1 hj).1; simpa using this
        rw [hat j hjl] at hlj
        have hm := hE.2.2 j (by simpa using hlj) oj (by simpa using hj) e he hb
        rw [hat e.on (by have := hE.2.1 _ hm; omega)]
        simpa using hm, fun t ht htl => by
        rw [hat t (by simpa using htl)]
        simp only [decide_eq_false_iff_not]
        intro hm
        have := hE.2.1 t hm
        omega⟩, Below.refl _ _, rfl, rfl, fun _ _ => rfl, fun i hi => by
        rw [hat i (by have := hE.2.1 i hi; omega)]; simpa using hi, fun i hi hli => by
        rw [hat i (by omega)] at hli
        exact hh i (by simpa using hli)⟩
  rw [show n - E.length + (l.length - n) = fuel by omega] at h
  exact h
end

/-- an operation that yields in whatever world is taken first -/
theorem wpAny_early {P : Program} {md : Region.Mode} {ops : Array Oper} {Q : Exit → Act → World → Prop} (i : Nat) (d : Tmp) (v : Value) {fuel : Nat} {listed : Array Bool} {a : Act} {w : World}
    (hs : Region.noSelect ops = true) (hf : Region.free md ops listed i = true) (hr : (Region.ready md ops listed).contains i = true) (hQ : ∀ c a w, Q (.panic c) (a.put (some d) v) w → Q (.panic c) a w)
    (ho : (ops[i]?).map (·.dst) = some (some d)) (hy : ∀ o, ops[i]? = some o → Yields P ops o v a)
    (h : wpAny P md ops Q fuel (listed.setIfInBounds i true) (a.put (some d) v) w) : wpAny P md ops Q (fuel + 1) listed a w := by
  cases hi : ops[i]? with
  | none => rw [hi] at ho; cases ho
  | some o =>
    rw [hi] at ho
    have hd : o.dst = some d := by simpa using ho
    refine wpAny_take hi hs hf hr ?_ (hy o hi) ?_
    · rw [hd]; exact hQ
    · rw [hd]; exact h
/-- 'append(s, x...)' as one operation of such a region -/
theorem gives_app {P : Program} {o : Oper} {ρ : Operand → Value} {w : World} {R : Value → World → Prop} (s x : Operand) (t : TypeId) (ho : o.op = .call { callee := .builtin .append, args := #[s, x], argTypes := #[t, t] }) (base : Nat) (e : TypeId)
    (z : Value) (size bytes : Nat) (ht : P.underlying t = some (.slice e)) (hi : (P.info? e).map (fun i => (i.zero, i.size, i.bytes)) = some (some z, size, bytes)) (hzs : z.cells.size = size) (hsz : 0 < size) (v : Value) (n : Nat) (xs : List Value) (hs : ρ s = v)
    (hown : w.ownsRow base e size v n xs) (ao : Option Addr) (m c : Nat) (news : List Value) (hx : ρ x = .slice ao m c) (hnone : ao = none → m = 0 ∧ c = 0) (hl : news.length = m * size)
    (hnews : ∀ ad, ao = some ad → ∀ (j : Nat) (u : Value), news[j]? = some u → w.cell? (ad.add j) = some u) (h1 : ∀ u, u ∈ news → u.oneCell' = true) (h63 : n + m ≤ maxLen) (hbytes : (n + m) * bytes ≤ 140737488355328) (hbase : base ≤ w.heap.size)
    (h : ∀ (v' : Value) (w' : World), w'.ownsRow base e size v' (n + m) (xs ++ news) → Below base w w' → w.grownBy w' v.ownBlock → R v' w') : gives P o ρ w R := by
  obtain ⟨i0, hi0, hz0, hz1, hz2⟩ := info_parts hi
  cases ao with
  | none =>
    obtain ⟨rfl, rfl⟩ := hnone rfl
    have hn : news = [] := List.eq_nil_of_length_eq_zero (by simpa using hl)
    subst hn
    have hr := run_append_owned_none (P := P) w base t o.type e i0 size ht hi0 v n xs hown
    unfold gives execOp
    simp only [ho, resolve, invoke, builtin, Sem.run_bind, Sem.run_pure, Result.andThen_ok, List.map_toArray, List.map_cons, List.map_nil, hs, hx, hr]
    exact h v w (by simpa using hown) (Below.refl _ _) (World.grownBy.refl _ _)
  | some ad =>
    obtain ⟨v', w', hr, h2, h3, _⟩ := run_append_own (P := P) w base t o.type e i0 z size bytes ht hi0 hz0 hz1 hz2 hzs hsz v n xs hown ad m c news hl (hnews ad rfl) h1 h63 hbytes hbase
    unfold gives execOp
    simp only [ho, resolve, invoke, builtin, Sem.run_bind, Sem.run_pure, Result.andThen_ok, List.map_toArray, List.map_cons, List.map_nil, hs, hx, hr]
    exact h v' w' h2 ((Below.refl _ _).grown h3 hbase (fun k hk => (hown.lt k hk).1)) h3
theorem gives_app_ints {P : Program} {o : Oper} {ρ : Operand → Value} {w : World} {R : Value → World → Prop} (s x : Operand) (t : TypeId) (ho : o.op = .call { callee := .builtin .append, args := #[s, x], argTypes := #[t, t] }) (base : Nat) (e : TypeId) (k : IntKind)
    (bytes : Nat) (ht : P.underlying t = some (.slice e)) (hi : (P.info? e).map (fun i => (i.zero, i.size, i.bytes)) = some (some (.int k 0), 1, bytes)) (v : Value) (n : Nat) (xs : List Int) (hs : ρ s = v)
    (hown : w.ownsRow base e 1 v n (xs.map (Value.int k))) (x' : Value) (ys : List Int) (hx : ρ x = x') (hsrc : Sl k w x' ys) (hlen : (xs.length + ys.length) * bytes ≤ 140737488355328) (hm : xs.length + ys.length ≤ maxLen) (hbase : base ≤ w.heap.size)
    (h : ∀ (v' : Value) (w' : World), w'.ownsRow base e 1 v' (xs.length + ys.length) ((xs ++ ys).map (Value.int k)) → Below base w w' → w.grownBy w' v.ownBlock → R v' w') : gives P o ρ w R := by
  have hn : n = xs.length := by have := hown.1; simpa using this.symm
  subst hn
  obtain ⟨ao, c, e', _⟩ := id hsrc
  subst e'
  refine gives_app s x t ho base e (.int k 0) 1 bytes ht hi rfl (by decide) v xs.length (xs.map (Value.int k)) hs hown ao ys.length c (ys.map (Value.int k)) hx ?_ (by simp) ?_ (ints_oneCell _ _) hm hlen hbase ?_
  · intro h0; subst h0; exact hsrc.bare
  · intro ad h0; subst h0
    by_cases h0 : 0 < ys.length
    · obtain ⟨ad', e', hc⟩ := hsrc.cells h0
      cases e'
      exact hc
    · intro j u hj
      obtain rfl : ys = [] := List.eq_nil_of_length_eq_zero (by omega)
      simp at hj
  · intro v' w' hown' hb hg
    exact h v' w' (by simpa using hown') hb hg

/-- two worlds in which an empty row is owned at one block differ by nothing there -/
theorem empty_same {w w' : World} {base g : Nat} {e : TypeId} (h : w.ownsRow base e 1 (.slice (some ⟨g, 0, none⟩) 0 0) 0 []) (h' : w'.ownsRow base e 1 (.slice (some ⟨g, 0, none⟩) 0 0) 0 []) : w'.heap[g]? = w.heap[g]? := by
  have k := own_block h
  have k' := own_block h'
  rw [k, k']
/-- 'append([]T{}, x...)' as one operation of such a region: the empty literal has just been made -/
theorem gives_fresh_ints {P : Program} {o : Oper} {ρ : Operand → Value} {w : World} {R : Value → World → Prop} (s x : Operand) (t : TypeId) (ho : o.op = .call { callee := .builtin .append, args := #[s, x], argTypes := #[t, t] }) (base : Nat) (e : TypeId) (k : IntKind)
    (bytes : Nat) (ht : P.underlying t = some (.slice e)) (hi : (P.info? e).map (fun i => (i.zero, i.size, i.bytes)) = some (some (.int k 0), 1, bytes)) (g : Nat) (hs : ρ s = .slice (some ⟨g, 0, none⟩) 0 0)
    (hown : w.ownsRow base e 1 (.slice (some ⟨g, 0, none⟩) 0 0) 0 []) (x' : Value) (ys : List Int) (hx : ρ x = x') (hsrc : Sl k w x' ys) (hlen : ys.length * bytes ≤ 140737488355328) (hm : ys.length ≤ maxLen) (hbase : base ≤ w.heap.size)
    (h : ∀ (v' : Value) (w' : World), w'.ownsRow base e 1 v' ys.length (ys.map (Value.int k)) → Below w.heap.size w w' → R v' w') : gives P o ρ w R := by
  obtain ⟨i0, hi0, hz0, hz1, hz2⟩ := info_parts hi
  obtain ⟨ao, c, e', _⟩ := id hsrc
  subst e'
  have run : ∀ v' w', (Builtin.append_ #[t, t] o.type #[.slice (some ⟨g, 0, none⟩) 0 0, .slice ao ys.length c]).run P w = .ok v' w' → R v' w' → gives P o ρ w R := fun v' w' hr hR => by
    unfold gives execOp
    simp only [ho, resolve, invoke, builtin, Sem.run_bind, Sem.run_pure, Result.andThen_ok, List.map_toArray, List.map_cons, List.map_nil, hs, hx, hr]
    exact hR
  by_cases h0 : ys.length = 0
  · obtain rfl : ys = [] := List.eq_nil_of_length_eq_zero h0
    cases ao with
    | none =>
      have hc := hsrc.bare.2
      subst hc
      exact run _ _ (run_append_owned_none (P := P) w base t o.type e i0 1 ht hi0 _ 0 [] hown) (h _ _ (by simpa using hown) (Below.refl _ _))
    | some ad =>
      obtain ⟨w', hr, h2, h3⟩ := run_append_fits (P := P) w base t o.type e i0 1 ht hi0 hz1 g 0 0 [] hown ad 0 c [] rfl (by simp) (by simp) (by omega)
      refine run _ _ hr (h _ _ (by simpa using h2) ⟨h3.os, h3.tape, h3.output, h3.size, fun k hk => ?_⟩)
      by_cases hkg : k = g
      · subst hkg; exact empty_same hown (by simpa using h2)
      · exact h3.block k hk (fun e => hkg (Option.some.inj e))
  · obtain ⟨ad, rfl, hsc⟩ := hsrc.cells (by omega)
    obtain ⟨v', w', hr, h2, h3⟩ := run_append_arg_grows (P := P) w t o.type e i0 (.int k 0) 1 bytes ht hi0 hz0 hz1 hz2 rfl (by decide) ⟨g, 0, none⟩ 0 0 [] rfl (by simp) ad ys.length c (ys.map (Value.int k)) (by simp) hsc (by omega) (by omega) (by simpa using hlen)
    exact run _ _ hr (h _ _ (by simpa using owned_mono h2 hbase) ((Below.refl _ _).grown h3 (Nat.le_refl _) (fun k hk => by cases hk)))

end Go.Proofs.Ytiappeagdnkedaa
