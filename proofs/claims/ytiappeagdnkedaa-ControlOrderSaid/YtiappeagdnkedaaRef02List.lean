
/-
  The document's own List of layer 2.
-/
import Derived.Test.YtiappeagdnkedaaRef02
import Derived.Test.YtiappeagdnkedaaFrameList
import Derived.Test.YtiappeagdnkedaaRegion
namespace Go.Proofs.Ytiappeagdnkedaa
open Go.RowKit

theorem refList_any (u v : Value) (ps qs : List (Fr × Value)) (w : World) (hu : SlF w u ps) (hv : SlF w v qs) :
    Calls Try.prog 20 #[u, v] w fun e w' => e = .returned (.bool (decide (ps.map (·.1) = qs.map (·.1)))) ∧ Below w.heap.size w w' := by
  have hmx := hu.len
  have hmy := hv.len
  unfold maxLen at hmx hmy
  have hu' := hu
  have hv' := hv
  obtain ⟨hpu, a, cap, rfl, hlu, _, hcu⟩ := hu
  obtain ⟨hpv, a2, cap2, rfl, hlv, _, hcv⟩ := hv
  by_cases hl : ps.length = qs.length
  · have hn : ((ps.length : Int) != (qs.length : Int)) = false := by simp; omega
    have HL := Lib.hid hl
    clear hl
    go_enter Try.func20, Try.ntmps20
    go_wp2
    clear hn
    go_loopw [5] (fun i wr => ∃ k : Nat, k ≤ ps.length ∧ i = .int .i64 k ∧ Hid ((ps.map (·.1)).take k = (qs.map (·.1)).take k) ∧ Below w.heap.size w wr) (fun i _ => ps.length - (intOf i).toNat)
    case atStart => exact ⟨0, Nat.zero_le _, rfl, by show _ = _; simp, Below.refl _ _⟩
    case round =>
      obtain ⟨k, hk, rfl, HT, hb⟩ := hrel
      by_cases hlt : k < ps.length
      · obtain ⟨p, hp⟩ : ∃ p, ps[k]? = some p := ⟨ps[k], List.getElem?_eq_getElem hlt⟩
        obtain ⟨q, hq⟩ : ∃ q, qs[k]? = some q := ⟨qs[k]'(by have := HL.out; omega), List.getElem?_eq_getElem (by have := HL.out; omega)⟩
        rcases hcu with ⟨h0, _⟩ | ⟨b, off, rfl, hbl, hcell⟩
        · omega
        rcases hcv with ⟨h0, _⟩ | ⟨b2, off2, rfl, hbl2, hcell2⟩
        · have := HL.out; omega
        have hf1 := (hcell k p hp).below hb hbl
        have hf2 := (hcell2 k q hq).below hb hbl2
        have hs1 := (hpu p (List.mem_of_getElem? hp)).below hb
        have hs2 := (hpv q (List.mem_of_getElem? hq)).below hb
        have hlt2 : k < qs.length := by have := HL.out; omega
        have hbl' := Nat.lt_of_lt_of_le hbl hb.size
        have hbl2' := Nat.lt_of_lt_of_le hbl2 hb.size
        clear hcell hcell2
        go_wp2
        refine wp_region_table 10 [18, 19, 20, 21, 22, 23, 24, 25, 26, 6] [[], [], [(0, 18), (1, 19)], [(2, 20)], [], [], [(4, 22), (5, 23)], [(6, 24)], [(3, 21), (7, 25)], [(8, 26)]]
          (fun i v w' => match i with
            | 0 => v = .slice (some ⟨b, off, none⟩) ps.length cap
            | 1 => v = .int .i64 k
            | 2 => v = .pointer (some ⟨b, off + k * 4, none⟩)
            | 3 => v = .agg #[.int .i64 p.1.kind, .int .i64 p.1.flags, .int .i64 p.1.stream, p.2]
            | 4 => v = .slice (some ⟨b2, off2, none⟩) qs.length cap2
            | 5 => v = .int .i64 k
            | 6 => v = .pointer (some ⟨b2, off2 + k * 4, none⟩)
            | 7 => v = .agg #[.int .i64 q.1.kind, .int .i64 q.1.flags, .int .i64 q.1.stream, q.2]
            | 8 => v = .bool (decide (p.1 = q.1))
            | 9 => v = .bool (decide (p.1 = q.1))
            | _ => True) (by kernel_rfl) (by kernel_rfl) ?tStab ?tOps ?tRest
        case tStab =>
          intro i v w3 w4 h _
          match i, h with
          | 0, h | 1, h | 2, h | 3, h | 4, h | 5, h | 6, h | 7, h | 8, h | 9, h => exact h
          | i + 10, _ => trivial
        case tOps =>
          simp only [List.take_succ_cons, List.take_zero, opsOk]
          refine ⟨?_, ?_, ?_, ?_, ?_, ?_, ?_, ?_, ?_, ?_, trivial⟩
          · intro ρ w3 hc hf ho hB hj
            have x0 : ρ (.tmp 0) = .slice (some ⟨b, off, none⟩) ps.length cap := ho 0 (by decide)
            simp [gives, go_sem, x0, Below.refl]
          · intro ρ w3 hc hf ho hB hj
            have x0 : ρ (.tmp 5) = .int .i64 k := ho 5 (by decide)
            simp [gives, go_sem, x0, Below.refl]
          · intro ρ w3 hc hf ho hB hj
            have x0 : ρ (.tmp 18) = .slice (some ⟨b, off, none⟩) ps.length cap := hj (0, 18) (by simp)
            have x1 : ρ (.tmp 19) = .int .i64 k := hj (1, 19) (by simp)
            simp [gives, go_sem, x0, x1, hlt, Below.refl]
          · intro ρ w3 hc hf ho hB hj
            have x0 : ρ (.tmp 20) = .pointer (some ⟨b, off + k * 4, none⟩) := hj (2, 20) (by simp)
            obtain ⟨y0, y1, y2, y3⟩ := hf1.below hB hbl'
            simp [gives, go_sem, x0, y0, y1, y2, y3, Below.refl]
          · intro ρ w3 hc hf ho hB hj
            have x0 : ρ (.tmp 1) = .slice (some ⟨b2, off2, none⟩) qs.length cap2 := ho 1 (by decide)
            simp [gives, go_sem, x0, Below.refl]
          · intro ρ w3 hc hf ho hB hj
            have x0 : ρ (.tmp 5) = .int .i64 k := ho 5 (by decide)
            simp [gives, go_sem, x0, Below.refl]
          · intro ρ w3 hc hf ho hB hj
            have x0 : ρ (.tmp 22) = .slice (some ⟨b2, off2, none⟩) qs.length cap2 := hj (4, 22) (by simp)
            have x1 : ρ (.tmp 23) = .int .i64 k := hj (5, 23) (by simp)
            simp [gives, go_sem, x0, x1, hlt2, Below.refl]
          · intro ρ w3 hc hf ho hB hj
            have x0 : ρ (.tmp 24) = .pointer (some ⟨b2, off2 + k * 4, none⟩) := hj (6, 24) (by simp)
            obtain ⟨y0, y1, y2, y3⟩ := hf2.below hB hbl2'
            simp [gives, go_sem, x0, y0, y1, y2, y3, Below.refl]
          · intro ρ w3 hc hf ho hB hj
            have x0 : ρ (.tmp 21) = .agg #[.int .i64 p.1.kind, .int .i64 p.1.flags, .int .i64 p.1.stream, p.2] := hj (3, 21) (by simp)
            have x1 : ρ (.tmp 25) = .agg #[.int .i64 q.1.kind, .int .i64 q.1.flags, .int .i64 q.1.stream, q.2] := hj (7, 25) (by simp)
            simp [gives, go_sem, x0, x1, hf]
            refine (refSame_frame _ _ p.1 q.1 _ ⟨_, rfl, hs1.below hB⟩ ⟨_, rfl, hs2.below hB⟩).mono ?_
            rintro e w4 ⟨rfl, hb4⟩
            exact ⟨_, rfl, rfl, hb4⟩
          · intro ρ w3 hc hf ho hB hj
            have x0 : ρ (.tmp 26) = .bool (decide (p.1 = q.1)) := hj (8, 26) (by simp)
            simp [gives, go_sem, x0, Below.refl]
        case tRest =>
          intro x w3 hb3 hx
          have x9 : x 9 = .bool (decide (p.1 = q.1)) := hx 9 (by decide)
          simp only [putAll, List.getD_cons_zero, List.getD_cons_succ, Act.put, List.setIfInBounds_toArray, List.set_cons_zero, List.set_cons_succ, List.drop_succ_cons, List.drop_zero]
          rw [x9]
          have hb' := hb.trans (hb3.mono hb.size)
          clear hx x9 hf1 hf2 hs1 hs2
          by_cases he : p.1 = q.1
          · rw [decide_eq_true he]
            have HE := Lib.hid he
            clear he
            go_wp2
            go_roundw
            case rel => exact ⟨k + 1, by omega, by go_num, (by show _ = _; rw [List.take_add_one, List.take_add_one, HT.out, List.getElem?_map, List.getElem?_map, hp, hq, Option.map_some, Option.map_some, HE.out]), hb'⟩
            case measure => simp [intOf]; omega
          · rw [decide_eq_false he]
            have hne : ps.map (·.1) ≠ qs.map (·.1) := fun e => he (by
              have := congrArg (fun l => l[k]?) e
              simp only [List.getElem?_map, hp, hq, Option.map_some, Option.some.injEq] at this
              exact this)
            have HD := Lib.hid (decide_eq_false hne)
            clear he hne
            go_wp2
            go_ret
            exact ⟨by rw [HD.out]; rfl, hb'⟩
      · obtain rfl : k = ps.length := by omega
        have he : ps.map (·.1) = qs.map (·.1) := by
          have := HT.out
          rwa [List.take_of_length_le (by simp), List.take_of_length_le (by simp; have := HL.out; omega)] at this
        have HD := Lib.hid (decide_eq_true he)
        clear he
        go_wp2
        go_ret
        exact ⟨by rw [HD.out]; rfl, hb⟩
  · have hn : ((ps.length : Int) != (qs.length : Int)) = true := by simp; omega
    have hne : ps.map (·.1) ≠ qs.map (·.1) := fun e => hl (by have := congrArg List.length e; simpa using this)
    have HD := Lib.hid (decide_eq_false hne)
    clear hne hl
    go_enter Try.func20, Try.ntmps20
    go_wp2
    go_ret
    exact ⟨by rw [HD.out]; rfl, Below.refl _ _⟩

end Go.Proofs.Ytiappeagdnkedaa
