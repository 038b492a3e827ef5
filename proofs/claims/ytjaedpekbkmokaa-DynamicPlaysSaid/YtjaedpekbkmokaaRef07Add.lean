
/-
  Layer 7's reference: Get, SetMost, Add.
-/
import Derived.Test.YtjaedpekbkmokaaRef07
namespace Go.Proofs.Ytjaedpekbkmokaa
open Go.RowKit

/-- the field of an index, of a list with the newest one first -/
def getR (fs : List Fd) (i : Int) : Value := if 1 ≤ i ∧ i ≤ fs.length then .tuple #[.agg #[.string (fs.getD (i.toNat - 1) (⟨#[]⟩, ⟨#[]⟩)).1, .string (fs.getD (i.toNat - 1) (⟨#[]⟩, ⟨#[]⟩)).2], .int .i64 0] else .tuple #[.agg #[.string ⟨#[]⟩, .string ⟨#[]⟩], .int .i64 5]
theorem getR_reverse (fs : List Fd) (i : Int) : getR fs.reverse i = getO fs i := by
  unfold getR getO
  rw [List.length_reverse]
  by_cases h : 1 ≤ i ∧ i ≤ fs.length
  · rw [if_pos h, if_pos h]
    have e : fs.reverse.getD (i.toNat - 1) (⟨#[]⟩, ⟨#[]⟩) = fs.getD (fs.length - i.toNat) (⟨#[]⟩, ⟨#[]⟩) := by
      rw [List.getD_eq_getElem?_getD, List.getD_eq_getElem?_getD, List.getElem?_reverse (by omega), show fs.length - 1 - (i.toNat - 1) = fs.length - i.toNat by omega]
    rw [e]
  · rw [if_neg h, if_neg h]
set_option maxHeartbeats 1000000 in
theorem refGet7_any (T base : Nat) (b m i : Int) (v : Value) (fs : List Fd) (w : World) (h : TabR w base T b m v fs) :
    Calls Try.prog 26 #[.pointer (some ⟨T, 0, none⟩), .int .i64 i] w fun e w' => e = .returned (getR fs i) ∧ Below w.heap.size w w' := by
  obtain ⟨_, hT, hr⟩ := h
  have hsl := hr.toSl
  obtain ⟨a, c, rfl, hc1, hc2⟩ := hsl.shape
  unfold maxLen at hc2
  have hTa := hT.below ((Below.refl w.heap.size w).alloc (Nat.le_refl _) (.cells #[.string ⟨#[]⟩, .string ⟨#[]⟩] 32))
  have c2 := hTa.c0
  by_cases hi : 1 ≤ i ∧ i ≤ fs.length
  · obtain ⟨k, rfl⟩ : ∃ k : Nat, i = (k : Int) + 1 := ⟨(i - 1).toNat, by omega⟩
    have hk : k < fs.length := by omega
    obtain ⟨f, hf⟩ : ∃ f, fs[k]? = some f := ⟨fs[k], List.getElem?_eq_getElem hk⟩
    have HG := Lib.hid (show getR fs ((k : Int) + 1) = .tuple #[.agg #[.string f.1, .string f.2], .int .i64 0] by
      rw [getR, if_pos hi, show ((k : Int) + 1).toNat - 1 = k by omega, List.getD_eq_getElem?_getD, hf, Option.getD_some])
    obtain ⟨bk, off, rfl, hbl, hcell⟩ := hsl.at_ hk
    obtain ⟨y0, y1⟩ := hcell f hf
    have hA := (Below.refl w.heap.size w).alloc (Nat.le_refl _) (.cells #[.string ⟨#[]⟩, .string ⟨#[]⟩] 32)
    have z0 := (hA.cell (p := ⟨bk, off + k * 2, none⟩) hbl).trans y0
    have z1 := (hA.cell (p := ⟨bk, off + k * 2 + 1, none⟩) hbl).trans y1
    have d1 : decide ((k : Int) + 1 < 1) = false := decide_eq_false (by omega)
    have d2 : decide ((fs.length : Int) < (k : Int) + 1) = false := decide_eq_false (by omega)
    obtain ⟨N, hN⟩ : ∃ N, N = fs.length := ⟨_, rfl⟩
    rw [← hN] at hc1 hk d2 c2
    have hsub : IntKind.i64.wrap (k : Int) = (k : Int) := wrap_i64_small (by omega) (by omega)
    have hix := run_index_sl (P := Try.prog) (t := 46) (s := 2) sliceFld (fun _ => by kernel_rfl) bk off N c k hk
    clear hi hcell hsl hf hN hTa hA
    go_enter Try.func26, Try.ntmps26
    go_wp2_with (with_reducible refine store_fld rfl (.tmp 4) (.tmp 25) rfl w.heap.size f.1 f.2 _ _ rfl rfl (heap_alloc_new _ _) ?_)
    refine bodyPost_ret (results_row_tmp1 rfl _ _ w.heap.size 32 #[.string f.1, .string f.2] (0, 0) _ rfl (setRow_heap _ _ _ _ _ _ (heap_alloc_new _ _)) Try.underlying32 rfl (by kernel_rfl)) rfl ⟨?_, below_setRow ((Below.refl _ _).alloc (Nat.le_refl _) _) (Nat.le_refl _) _⟩
    rw [HG.out]; rfl
  · have HG := Lib.hid (show getR fs i = .tuple #[.agg #[.string ⟨#[]⟩, .string ⟨#[]⟩], .int .i64 5] by rw [getR, if_neg hi])
    by_cases h1 : i < 1
    · have d1 : decide (i < 1) = true := decide_eq_true h1
      clear hi h1
      go_enter Try.func26, Try.ntmps26
      go_wp2_with fail
      refine bodyPost_ret (results_row_tmp1 rfl _ _ w.heap.size 32 #[.string ⟨#[]⟩, .string ⟨#[]⟩] (0, 0) _ rfl (heap_alloc_new _ _) Try.underlying32 rfl (by kernel_rfl)) rfl ⟨?_, (Below.refl _ _).alloc (Nat.le_refl _) _⟩
      rw [HG.out]; rfl
    · have d1 : decide (i < 1) = false := decide_eq_false h1
      have d2 : decide ((fs.length : Int) < i) = true := decide_eq_true (by omega)
      clear hi h1
      go_enter Try.func26, Try.ntmps26
      go_wp2_with fail
      refine bodyPost_ret (results_row_tmp1 rfl _ _ w.heap.size 32 #[.string ⟨#[]⟩, .string ⟨#[]⟩] (0, 0) _ rfl (heap_alloc_new _ _) Try.underlying32 rfl (by kernel_rfl)) rfl ⟨?_, (Below.refl _ _).alloc (Nat.le_refl _) _⟩
      rw [HG.out]; rfl
theorem refSet_no (T base : Nat) (b m n : Int) (v : Value) (fs : List Fd) (w : World) (h : TabR w base T b m v fs) (hn : ¬ (0 ≤ n ∧ n ≤ b)) :
    Calls Try.prog 9 #[.pointer (some ⟨T, 0, none⟩), .int .i64 n] w fun e w' => e = .returned (.int .i64 1) ∧ w' = w := by
  have c0 := h.2.1.c1
  by_cases h0 : n < 0
  · have d1 : decide (n < 0) = true := decide_eq_true h0
    clear hn h h0
    go_enter Try.func9, Try.ntmps9
    go_wp2_with fail
    go_ret
    exact ⟨rfl, rfl⟩
  · have d1 : decide (n < 0) = false := decide_eq_false h0
    have d2 : decide (b < n) = true := decide_eq_true (by omega)
    clear hn h h0
    go_enter Try.func9, Try.ntmps9
    go_wp2_with fail
    go_ret
    exact ⟨rfl, rfl⟩
/-- the end of a call on the reference's table: what came out is laid in its place -/
theorem TabR.laid {w w2 w3 : World} {base T : Nat} {b m n : Int} {v u : Value} {fs gs : List Fd} (h : TabR w base T b m v fs) (hbase : base ≤ w.heap.size) (hT : RefAt w2 T v b n) (hm : Mv T v w w2) (hb : Below w2.heap.size w2 w3) (hr : RowF w3 w2.heap.size u gs) :
    TabR (w3.setCell ⟨T, 0, none⟩ u) base T b n u gs ∧ From w v u ∧ Mv T v w (w3.setCell ⟨T, 0, none⟩ u) := by
  have hT3 := hT.below hb
  have hap := hT3.apart hr
  refine ⟨⟨h.1, hT3.s0 u, (hr.mono (Nat.le_trans hbase hm.size)).of_block fun g hg => Below.heap_setCell _ _ _ _ (fun e => hap (by rw [hg]; exact congrArg some e))⟩, fun g hg => .inr (Nat.le_trans hm.size (hr.lt g hg).1), (hm.trans (Mv.of hb) (fun g hg => .inl hg)).trans (Mv.set T v w3 0 u) (fun g hg => .inl hg)⟩
set_option maxHeartbeats 1000000 in
theorem refSet_any (T base : Nat) (b m n : Int) (v : Value) (fs : List Fd) (w : World) (h : TabR w base T b m v fs) (hn : 0 ≤ n ∧ n ≤ b) (hz : sumF fs ≤ 1000000000) (hbase : base ≤ w.heap.size) :
    Calls Try.prog 9 #[.pointer (some ⟨T, 0, none⟩), .int .i64 n] w fun e w' => e = .returned (.int .i64 0) ∧ ∃ v', TabR w' base T b n v' (fitF n fs) ∧ From w v v' ∧ Mv T v w w' := by
  have c0 := h.2.1.c1
  have f1 : w.frozen? ⟨T, 2, none⟩ = false := h.2.1.free
  have d1 : decide (n < 0) = false := decide_eq_false (by omega)
  have d2 : decide (b < n) = false := decide_eq_false (by omega)
  have h1 := h.2.1.s2 n
  have c2 := h.2.1.c2
  have c1 := h1.c0
  have hr1 : RowF (w.setCell ⟨T, 2, none⟩ (.int .i64 n)) base v fs := h.2.2.of_block (fun g hg => Below.heap_setCell _ _ _ _ (fun e => h.sep (by rw [hg]; exact congrArg some e)))
  have hsl := hr1.toSl
  have hm1 := Mv.set T v w 2 (.int .i64 n)
  obtain ⟨W1, hW1⟩ : ∃ W1, w.setCell ⟨T, 2, none⟩ (.int .i64 n) = W1 := ⟨_, rfl⟩
  rw [hW1] at h1 c1 hr1 hsl hm1
  have HW := Lib.hid hW1
  have HN := Lib.hid hn
  clear hn hW1
  go_enter Try.func9, Try.ntmps9
  go_wp2_with (rw [HW.out])
  refine (refFit_any v fs n W1 hsl hz).mono ?_
  rintro e w2 ⟨u, rfl, hr2, hb2⟩
  obtain ⟨a2, k2, e2⟩ := hr2.shape
  obtain ⟨N2, hN2⟩ : ∃ N2, N2 = (fitF n fs).length := ⟨_, rfl⟩
  rw [← hN2] at e2
  subst e2
  have hT2 := h1.below hb2
  have q0 := hT2.c0
  have qf : w2.frozen? ⟨T, 0, none⟩ = false := hT2.free
  have HE := Lib.hid (TabR.laid h hbase h1 hm1 hb2 hr2)
  clear hN2 hr2 hb2 hT2
  go_wp2_with fail
  go_ret
  exact ⟨rfl, _, HE.out⟩

/-- 'append(s, x...)', s full: nothing that lay is turned -/
theorem gives_fresh_row {P : Program} {o : Oper} {ρ : Operand → Value} {w : World} {R : Value → World → Prop} (s x : Operand) (t : TypeId) (ho : o.op = .call { callee := .builtin .append, args := #[s, x], argTypes := #[t, t] }) (base : Nat) (e : TypeId)
    (z : Value) (size bytes : Nat) (ht : P.underlying t = some (.slice e)) (hi : (P.info? e).map (fun i => (i.zero, i.size, i.bytes)) = some (some z, size, bytes)) (hzs : z.cells.size = size) (hsz : 0 < size) (g n : Nat) (xs : List Value) (hs : ρ s = .slice (some ⟨g, 0, none⟩) n n)
    (hown : w.ownsRow base e size (.slice (some ⟨g, 0, none⟩) n n) n xs) (ao : Option Addr) (m c : Nat) (news : List Value) (hx : ρ x = .slice ao m c) (hnone : ao = none → m = 0 ∧ c = 0) (hl : news.length = m * size)
    (hnews : ∀ ad, ao = some ad → ∀ (j : Nat) (u : Value), news[j]? = some u → w.cell? (ad.add j) = some u) (h63 : n + m ≤ maxLen) (hbytes : (n + m) * bytes ≤ 140737488355328) (hbase : base ≤ w.heap.size)
    (h : ∀ (v' : Value) (w' : World), w'.ownsRow base e size v' (n + m) (xs ++ news) → Below w.heap.size w w' → R v' w') : gives P o ρ w R := by
  obtain ⟨i0, hi0, hz0, hz1, hz2⟩ := info_parts hi
  have run : ∀ v' w', (Builtin.append_ #[t, t] o.type #[.slice (some ⟨g, 0, none⟩) n n, .slice ao m c]).run P w = .ok v' w' → R v' w' → gives P o ρ w R := fun v' w' hr hR => by
    unfold gives execOp
    simp only [ho, resolve, invoke, builtin, Sem.run_bind, Sem.run_pure, Result.andThen_ok, List.map_toArray, List.map_cons, List.map_nil, hs, hx, hr]
    exact hR
  have same : news = [] → R (.slice (some ⟨g, 0, none⟩) n n) w := fun hn => h _ w (by
    have hm : m = 0 := by
      rw [hn, List.length_nil] at hl
      rcases Nat.mul_eq_zero.1 hl.symm with h | h
      · exact h
      · omega
    rw [hn, hm, List.append_nil]; exact hown) (Below.refl _ _)
  cases ao with
  | none =>
    obtain ⟨rfl, rfl⟩ := hnone rfl
    have hn : news = [] := List.eq_nil_of_length_eq_zero (by simpa using hl)
    exact run _ _ (run_append_owned_none (P := P) w base t o.type e i0 size ht hi0 _ n xs hown) (same hn)
  | some ad =>
    by_cases hm : m = 0
    · subst hm
      have hn : news = [] := List.eq_nil_of_length_eq_zero (by simpa using hl)
      obtain ⟨_, ⟨h0, _⟩ | ⟨g', cap', cur, h0, hbg, hg, hnc, hcm, hcs, htake⟩⟩ := id hown
      · simp at h0
      · simp only [Value.slice.injEq, Option.some.injEq, Addr.mk.injEq, and_true, true_and] at h0
        obtain ⟨rfl, rfl⟩ := h0
        have hr := run_append_room (P := P) w t o.type e i0 ht hi0 g n n cur hg ad 0 c [] (by simp) (by simp) (by simp) (by omega) (by rw [hcs, hz1]; simp)
        simp only [List.append_nil, List.length_nil, Nat.add_zero, List.take_append_drop, Array.toArray_toList] at hr
        rw [setRow_self w g cur e (0, 0) hg] at hr
        exact run _ _ hr (same hn)
    · obtain ⟨v', w', hr, h2, h3⟩ := run_append_arg_grows (P := P) w t o.type e i0 z size bytes ht hi0 hz0 hz1 hz2 hzs hsz ⟨g, 0, none⟩ n n xs hown.1 (World.ownsRow.cells hown rfl) ad m c news hl (hnews ad rfl) (by omega) h63 hbytes
      exact run _ _ hr (h _ _ (owned_mono h2 hbase) ((Below.refl _ _).grown h3 (Nat.le_refl _) (fun k hk => by cases hk)))
theorem RowF.lit {w : World} (base : Nat) (f : Fd) (hb : base ≤ w.heap.size) : (w.alloc (.cells #[.string f.1, .string f.2] 32)).ownsRow base 32 2 (.slice (some ⟨w.heap.size, 0, none⟩) 1 1) 1 (fcs [f]) :=
  ⟨rfl, .inr ⟨w.heap.size, 1, _, rfl, hb, heap_alloc_new w _, Nat.le_refl _, by unfold maxLen; omega, rfl, rfl⟩⟩
theorem SlD.src {w : World} {a : Option Addr} {n c : Nat} {fs : List Fd} (h : SlD w (.slice a n c) fs) : ∀ ad, a = some ad → ∀ (j : Nat) (u : Value), (fcs fs)[j]? = some u → w.cell? (ad.add j) = some u := by
  rintro ad rfl j u hj
  have hjl : j < fs.length * 2 := by rw [← fcs_length]; exact (List.getElem?_eq_some_iff.1 hj).1
  obtain ⟨b, off, e, _, hc⟩ := h.at_ (i := j / 2) (by omega)
  cases e
  obtain ⟨f, hf⟩ : ∃ f, fs[j / 2]? = some f := ⟨fs[j / 2], List.getElem?_eq_getElem (by omega)⟩
  obtain ⟨c0, c1⟩ := hc f hf
  obtain ⟨d0, d1⟩ := fcs_at fs _ f hf
  rw [Go.WideShapes.add_plain]
  rcases (by omega : j = j / 2 * 2 ∨ j = j / 2 * 2 + 1) with e | e
  · rw [← e] at c0 d0
    rw [c0, ← d0, hj]
  · rw [Nat.add_assoc, ← e] at c1
    rw [← e] at d1
    rw [c1, ← d1, hj]
theorem SlD.bare {w : World} {n c : Nat} {a : Option Addr} {fs : List Fd} (h : SlD w (.slice a n c) fs) : a = none → n = 0 ∧ c = 0 := by
  rintro rfl
  obtain ⟨a', c', e, _, _, h3⟩ := h
  simp only [Value.slice.injEq] at e
  obtain ⟨rfl, rfl, rfl⟩ := e
  rcases h3 with ⟨h3, h4⟩ | ⟨b, off, e, _⟩
  · exact ⟨h3, h4 rfl⟩
  · cases e
set_option maxHeartbeats 1000000 in
theorem refAdd_any (T base : Nat) (b m : Int) (v : Value) (fs : List Fd) (f : Fd) (w : World) (h : TabR w base T b m v fs) (hz : sumF (f :: fs) ≤ 1000000000) (hbase : base ≤ w.heap.size) :
    Calls Try.prog 12 #[.pointer (some ⟨T, 0, none⟩), .agg #[.string f.1, .string f.2]] w fun e w' => e = .returned (.tuple #[]) ∧ ∃ v', TabR w' base T b m v' (fitF m (f :: fs)) ∧ From w v v' ∧ Mv T v w w' := by
  have hsl := h.2.2.toSl
  obtain ⟨a, c, rfl, hc1, hc2⟩ := hsl.shape
  have hl := sumF_len (f :: fs)
  simp only [List.length_cons] at hl
  have hB0 : Below w.heap.size w (w.alloc (.cells #[.string f.1, .string f.2] 32)) := (Below.refl _ _).alloc (Nat.le_refl _) _
  have hT0 := h.2.1.below hB0
  have hs0 := hsl.below hB0
  have hF0 := FldAt.new w f.1 f.2
  go_enter Try.func12, Try.ntmps12
  go_wp2_with fail
  obtain ⟨W1, hW1⟩ : ∃ W1, w.alloc (.cells #[.string f.1, .string f.2] 32) = W1 := ⟨_, rfl⟩
  rw [hW1] at hB0 hT0 hs0 hF0 ⊢
  clear hW1
  refine wp_region_table 15 [4, 5, 6, 7, 8, 9, 10, 11, 12, 13, 14, 15, 16, 17, 18] [[], [], [(1, 5)], [], [(3, 7)], [(4, 8)], [(5, 9)], [(2, 6), (6, 10)], [], [(8, 12)], [(9, 13)], [(10, 14)], [(7, 11), (11, 15)], [(0, 4)], [(13, 17)]]
    (fun i u w' => match i with
      | 0 => u = .pointer (some ⟨T, 0, none⟩)
      | 1 => u = .agg #[.string f.1, .string f.2]
      | 2 => ∃ C, u = .slice (some ⟨C, 0, none⟩) 1 1 ∧ w'.ownsRow W1.heap.size 32 2 (.slice (some ⟨C, 0, none⟩) 1 1) 1 (fcs [f])
      | 3 => u = .pointer (some ⟨T, 0, none⟩)
      | 4 => u = .pointer (some ⟨T, 0, none⟩)
      | 5 => u = .pointer (some ⟨T, 0, none⟩)
      | 6 => u = .slice a fs.length c
      | 7 => SlD w' u (f :: fs)
      | 8 => u = .pointer (some ⟨T, 0, none⟩)
      | 9 => u = .pointer (some ⟨T, 0, none⟩)
      | 10 => u = .pointer (some ⟨T, 2, none⟩)
      | 11 => u = .int .i64 m
      | 12 => RowF w' W1.heap.size u (fitF m (f :: fs))
      | 13 => u = .pointer (some ⟨T, 0, none⟩)
      | 14 => u = .pointer (some ⟨T, 0, none⟩)
      | _ => True) (by kernel_rfl) (by kernel_rfl) ?tStab ?tOps ?tRest
  case tStab =>
    intro i u w3 w4 h hb
    match i, h with
    | 0, h | 1, h | 3, h | 4, h | 5, h | 6, h | 8, h | 9, h | 10, h | 11, h | 13, h | 14, h => exact h
    | 2, ⟨C, e, hh⟩ => exact ⟨C, e, owned_below hh hb⟩
    | 7, h => exact h.below hb
    | 12, h => exact h.below hb
    | i + 15, _ => trivial
  case tOps =>
    simp only [List.take_succ_cons, List.take_zero, opsOk]
    refine ⟨?_, ?_, ?_, ?_, ?_, ?_, ?_, ?_, ?_, ?_, ?_, ?_, ?_, ?_, ?_, trivial⟩
    · intro ρ w3 hc hff ho hB hj
      have x0 : ρ (.tmp 0) = .pointer (some ⟨T, 0, none⟩) := ho 0 (by decide)
      simp [gives, go_sem, x0, Below.refl]
    · intro ρ w3 hc hff ho hB hj
      have x0 : ρ (.tmp 3) = .pointer (some ⟨w.heap.size, 0, none⟩) := ho 3 (by decide)
      have cc := (hF0.grown hB).c0
      have cd := (hF0.grown hB).c1
      simp [gives, go_sem, x0, cc, cd, Below.refl]
    · intro ρ w3 hc hff ho hB hj
      have x0 : ρ (.tmp 5) = .agg #[.string f.1, .string f.2] := hj (1, 5) (by simp)
      simp [gives, go_sem, x0]
      exact ⟨RowF.lit _ f hB.size, (Below.refl _ _).alloc (Nat.le_refl _) _⟩
    · intro ρ w3 hc hff ho hB hj
      have x0 : ρ (.tmp 0) = .pointer (some ⟨T, 0, none⟩) := ho 0 (by decide)
      simp [gives, go_sem, x0, Below.refl]
    · intro ρ w3 hc hff ho hB hj
      have x0 : ρ (.tmp 7) = .pointer (some ⟨T, 0, none⟩) := hj (3, 7) (by simp)
      simp [gives, go_sem, x0, Below.refl]
    · intro ρ w3 hc hff ho hB hj
      have x0 : ρ (.tmp 8) = .pointer (some ⟨T, 0, none⟩) := hj (4, 8) (by simp)
      simp [gives, go_sem, x0, Below.refl]
    · intro ρ w3 hc hff ho hB hj
      have x0 : ρ (.tmp 9) = .pointer (some ⟨T, 0, none⟩) := hj (5, 9) (by simp)
      have cc := (hT0.below hB).c0
      simp [gives, go_sem, x0, cc, Below.refl]
    · intro ρ w3 hc hff ho hB hj
      obtain ⟨C, x0, hown⟩ := hj (2, 6) (by simp)
      have x1 : ρ (.tmp 10) = .slice a fs.length c := hj (6, 10) (by simp)
      dsimp only at x0
      have hs3 := hs0.below hB
      refine gives_fresh_row (.tmp 6) (.tmp 10) 46 rfl W1.heap.size 32 _ 2 32 sliceFld sizeFld rfl (by decide) C 1 (fcs [f]) x0 hown a fs.length c (fcs fs) x1 hs3.bare (fcs_length _) hs3.src (by unfold maxLen; omega) (by omega) hB.size ?_
      intro v' w4 ho4 hb4
      refine ⟨?_, hb4⟩
      have : RowF w4 W1.heap.size v' (f :: fs) := by
        unfold RowF
        rw [List.length_cons, Nat.add_comm, show fcs (f :: fs) = fcs [f] ++ fcs fs from by simp [fcs]]
        exact ho4
      exact this.toSl
    · intro ρ w3 hc hff ho hB hj
      have x0 : ρ (.tmp 0) = .pointer (some ⟨T, 0, none⟩) := ho 0 (by decide)
      simp [gives, go_sem, x0, Below.refl]
    · intro ρ w3 hc hff ho hB hj
      have x0 : ρ (.tmp 12) = .pointer (some ⟨T, 0, none⟩) := hj (8, 12) (by simp)
      simp [gives, go_sem, x0, Below.refl]
    · intro ρ w3 hc hff ho hB hj
      have x0 : ρ (.tmp 13) = .pointer (some ⟨T, 0, none⟩) := hj (9, 13) (by simp)
      simp [gives, go_sem, x0, Below.refl]
    · intro ρ w3 hc hff ho hB hj
      have x0 : ρ (.tmp 14) = .pointer (some ⟨T, 2, none⟩) := hj (10, 14) (by simp)
      have cc := (hT0.below hB).c2
      simp [gives, go_sem, x0, cc, Below.refl]
    · intro ρ w3 hc hff ho hB hj
      have hs3 : SlD w3 (ρ (.tmp 11)) (f :: fs) := hj (7, 11) (by simp)
      have x1 : ρ (.tmp 15) = .int .i64 m := hj (11, 15) (by simp)
      obtain ⟨v3, x0⟩ : ∃ v3, ρ (.tmp 11) = v3 := ⟨_, rfl⟩
      rw [x0] at hs3
      simp [gives, go_sem, x0, x1, hff]
      refine (refFit_any v3 (f :: fs) m w3 hs3 hz).mono ?_
      rintro e w4 ⟨v', rfl, hr', hb'⟩
      exact ⟨_, rfl, hr'.mono hB.size, hb'⟩
    · intro ρ w3 hc hff ho hB hj
      have x0 : ρ (.tmp 4) = .pointer (some ⟨T, 0, none⟩) := hj (0, 4) (by simp)
      simp [gives, go_sem, x0, Below.refl]
    · intro ρ w3 hc hff ho hB hj
      have x0 : ρ (.tmp 17) = .pointer (some ⟨T, 0, none⟩) := hj (13, 17) (by simp)
      simp [gives, go_sem, x0, Below.refl]
  case tRest =>
    intro x w3 hb3 hx
    have e14 : x 14 = .pointer (some ⟨T, 0, none⟩) := hx 14 (by decide)
    have hr3 : RowF w3 W1.heap.size (x 12) (fitF m (f :: fs)) := hx 12 (by decide)
    obtain ⟨u, hu⟩ : ∃ u, x 12 = u := ⟨_, rfl⟩
    rw [hu] at hr3
    obtain ⟨N2, hN2⟩ : ∃ N2, N2 = (fitF m (f :: fs)).length := ⟨_, rfl⟩
    obtain ⟨a2, k2, e2⟩ := hr3.shape
    rw [← hN2] at e2
    subst e2
    simp only [putAll, List.getD_cons_zero, List.getD_cons_succ, Act.put, List.setIfInBounds_toArray, List.set_cons_zero, List.set_cons_succ, List.drop_succ_cons, List.drop_zero]
    rw [e14, hu]
    clear hx hN2 e14 hu
    have hT3 := hT0.below hb3
    have q0 := hT3.c0
    have qf : w3.frozen? ⟨T, 0, none⟩ = false := hT3.free
    have HE := Lib.hid (TabR.laid h hbase hT0 (Mv.of hB0) hb3 hr3)
    clear hr3 hb3 hT3
    go_wp2_with fail
    go_end0
    exact ⟨rfl, _, HE.out⟩
end Go.Proofs.Ytjaedpekbkmokaa
