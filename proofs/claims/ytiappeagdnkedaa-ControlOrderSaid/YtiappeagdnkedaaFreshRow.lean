
/-
  'append' onto a full row of the call's own, in a region that draws its order: nothing that lay is turned. No program is named here.
-/
import Derived.Test.YtiappeagdnkedaaOwn
import Derived.Test.YtiappeagdnkedaaRegion
namespace Go.Proofs.Ytiappeagdnkedaa
open Go.RowKit

/-- 'append(s, x...)', s full: nothing that lay is turned -/
theorem gives_fresh_row {P : Program} {o : Oper} {ρ : Operand → Value} {w : World} {R : Value → World → Prop} (s x : Operand) (t : TypeId) (ho : o.op = .call { callee := .builtin .append, args := #[s, x], argTypes := #[t, t] }) (base : Nat) (e : TypeId)
    (z : Value) (size bytes : Nat) (ht : P.underlying t = some (.slice e)) (hi : (P.info? e).map (fun i => (i.zero, i.size, i.bytes)) = some (some z, size, bytes)) (hzs : z.cells.size = size) (hsz : 0 < size) (g n : Nat) (xs : List Value) (hs : ρ s = .slice (some ⟨g, 0, none⟩) n n)
    (hown : w.ownsRow base e size (.slice (some ⟨g, 0, none⟩) n n) n xs) (ao : Option Addr) (m c : Nat) (news : List Value) (hx : ρ x = .slice ao m c) (hnone : ao = none → m = 0 ∧ c = 0) (hl : news.length = m * size)
    (hnews : ∀ ad, ao = some ad → ∀ (j : Nat) (u : Value), news[j]? = some u → w.cell? (ad.add j) = some u) (h63 : n + m ≤ maxLen) (hbytes : (n + m) * bytes ≤ 140737488355328) (hbase : base ≤ w.heap.size)
    (h : ∀ (v' : Value) (w' : World), w'.ownsRow base e size v' (n + m) (xs ++ news) → Below w.heap.size w w' → R v' w') : gives P o ρ w R := by
  obtain ⟨i0, hi0, hz0, hz1, hz2⟩ := info_parts hi
  have run : ∀ v' w', (Builtin.append_ #[t, t] o.type #[.slice (some ⟨g, 0, none⟩) n n, .slice ao m c]).run P w = .ok v' w' → R v' w' → gives P o ρ w R := fun v' w' hr hR => by
    unfold gives execOp
    simp only [ho, resolve, invoke, builtin, Sem.run_bind, Sem.run_pure, Result.andThen_ok, List.map_toArray, List.map_cons, List.map_nil, hs, hx, hr]
    exact hR
  have same : news = [] → R (.slice (some ⟨g, 0, none⟩) n n) w := fun hn => h _ w (by
    have hm : m = 0 := by
      rw [hn, List.length_nil] at hl
      rcases Nat.mul_eq_zero.1 hl.symm with h | h
      · exact h
      · omega
    rw [hn, hm, List.append_nil]; exact hown) (Below.refl _ _)
  cases ao with
  | none =>
    obtain ⟨rfl, rfl⟩ := hnone rfl
    have hn : news = [] := List.eq_nil_of_length_eq_zero (by simpa using hl)
    exact run _ _ (run_append_owned_none (P := P) w base t o.type e i0 size ht hi0 _ n xs hown) (same hn)
  | some ad =>
    by_cases hm : m = 0
    · subst hm
      have hn : news = [] := List.eq_nil_of_length_eq_zero (by simpa using hl)
      obtain ⟨_, ⟨h0, _⟩ | ⟨g', cap', cur, h0, hbg, hg, hnc, hcm, hcs, htake⟩⟩ := id hown
      · simp at h0
      · simp only [Value.slice.injEq, Option.some.injEq, Addr.mk.injEq, and_true, true_and] at h0
        obtain ⟨rfl, rfl⟩ := h0
        have hr := run_append_room (P := P) w t o.type e i0 ht hi0 g n n cur hg ad 0 c [] (by simp) (by simp) (by simp) (by omega) (by rw [hcs, hz1]; simp)
        simp only [List.append_nil, List.length_nil, Nat.add_zero, List.take_append_drop, Array.toArray_toList] at hr
        rw [setRow_self w g cur e (0, 0) hg] at hr
        exact run _ _ hr (same hn)
    · obtain ⟨v', w', hr, h2, h3⟩ := run_append_arg_grows (P := P) w t o.type e i0 z size bytes ht hi0 hz0 hz1 hz2 hzs hsz ⟨g, 0, none⟩ n n xs hown.1 (World.ownsRow.cells hown rfl) ad m c news hl (hnews ad rfl) (by omega) h63 hbytes
      exact run _ _ hr (h _ _ (owned_mono h2 hbase) ((Below.refl _ _).grown h3 (Nat.le_refl _) (fun k hk => by cases hk)))
end Go.Proofs.Ytiappeagdnkedaa
