/-
  Several texts of mine, one behind the other: SndAt.
-/
import Derived.Test.YtnoegbdmjinfjaaMgC

/-
  Layer 20's reference: each call in one statement, by the machine and the blocks that the sender refers to.
-/
namespace Go.Proofs.Ytnoegbdmjinfjaa
set_option maxRecDepth 20000
open Go.RowKit

def get20 (q : Sd) (id : Int) : Option Sm := q.l.find? (hasId id)
def put20 (q : Sd) (id : Int) (x : Sm) : Sd := { q with l := q.l.set (q.l.findIdx (hasId id)) x }
def openE20 (q : Sd) (id win : Int) : Int := if 1 ≤ id ∧ id ≤ 2147483647 ∧ winB win = true then (if q.l.any (hasId id) = true then 6 else 0) else 1
def openQ20 (q : Sd) (id win : Int) : Sd := if openE20 q id win = 0 then open20 q id win else q
def headE20 (q : Sd) (id : Int) (zs : List Int) : Int := match get20 q id with
  | none => 5
  | some x => if x.said = true then 6 else if 16384 < zs.length then 1 else 0
def headQ20 (q : Sd) (id : Int) (zs : List Int) (last : Bool) : Sd := match get20 q id with
  | none => q
  | some x => if headE20 q id zs = 0 then put20 q id { x with head := zs, waits := true, said := true, fin := last } else q
def dataE20 (q : Sd) (id : Int) (zs : List Int) : Int := match get20 q id with
  | none => 5
  | some x => if x.said = true ∧ x.fin = false then (if q.cap < sumB q.l + zs.length then 4 else 0) else 6
def dataQ20 (q : Sd) (id : Int) (zs : List Int) (last : Bool) : Sd := match get20 q id with
  | none => q
  | some x => if dataE20 q id zs = 0 then put20 q id { x with b := x.b ++ zs, fin := last } else q
def growE20 (q : Sd) (id : Int) : Int := if q.l.any (hasId id) = true then 0 else 5
def growO20 (q : Sd) (id n : Int) : Bool := match get20 q id with
  | none => false
  | some x => (growW x.win n).2
def growQ20 (q : Sd) (id n : Int) : Sd := match get20 q id with
  | none => q
  | some x => put20 q id { x with win := (growW x.win n).1 }
def dropE20 (q : Sd) (id : Int) : Int := if q.l.any (hasId id) = true then 0 else 5
theorem get20_none {q : Sd} {id : Int} (h : q.l.any (hasId id) = false) : get20 q id = none := List.find?_eq_none.2 (fun x hx e => by
  have : q.l.any (hasId id) = true := List.any_eq_true.2 ⟨x, hx, e⟩
  rw [h] at this; cases this)
theorem get20_some {q : Sd} {id : Int} (h : q.l.any (hasId id) = true) : ∃ k x, at20 q.l id = (k : Nat) ∧ q.l[k]? = some x ∧ get20 q id = some x ∧ (∀ x', put20 q id x' = { q with l := q.l.set k x' }) ∧ x.id = id := by
  have hl : q.l.findIdx (hasId id) < q.l.length := List.findIdx_lt_length_of_exists (by simpa using h)
  have hf : q.l.find? (hasId id) = some q.l[q.l.findIdx (hasId id)] := by
    rw [List.find?_eq_some_iff_getElem]
    refine ⟨List.findIdx_getElem (w := hl), _, hl, rfl, fun j hj => ?_⟩
    have := List.not_of_lt_findIdx hj
    simpa using this
  have := List.findIdx_getElem (w := hl)
  exact ⟨_, _, by rw [at20, if_pos h], List.getElem?_eq_getElem hl, hf, fun _ => rfl, by simpa [hasId] using this⟩
theorem dropS_none {q : Sd} {id : Int} (h : q.l.any (hasId id) = false) : dropS q id = q := by
  have e : q.l.filter (fun x => !hasId id x) = q.l := List.filter_eq_self.2 (fun x hx => by
    cases e : hasId id x with
    | false => rfl
    | true =>
      have : q.l.any (hasId id) = true := List.any_eq_true.2 ⟨x, hx, e⟩
      rw [h] at this; cases this)
  unfold dropS
  rw [e]
theorem RsObj.get {W : World} {R : Nat} {lv : Value} {ys : List SmV} {q : Sd} (h : RsObj W R lv ys q) {k : Nat} {x : Sm} (hx : q.l[k]? = some x) : ∃ hv bv, ys[k]? = some ⟨x, hv, bv⟩ := by
  rw [h.e, List.getElem?_map] at hx
  cases hy : ys[k]? with
  | none => rw [hy] at hx; cases hx
  | some y =>
    rw [hy] at hx
    obtain ⟨x', hv, bv⟩ := y
    obtain rfl : x' = x := by simpa using hx
    exact ⟨hv, bv, rfl⟩
/-- the reference's sender, and all blocks that it refers to -/
def RsAt (W : World) (R : Nat) (K : Nat → Prop) (q : Sd) : Prop := ∃ lv ys, RsObj W R lv ys q ∧ ∀ g, K g ↔ (g = R ∨ lv.ownBlock = some g ∨ SmsB ys g)
theorem RsAt.lt {W : World} {R : Nat} {K : Nat → Prop} {q : Sd} (h : RsAt W R K q) {g : Nat} (hg : K g) : g < W.heap.size := by
  obtain ⟨lv, ys, h1, h2⟩ := h
  rcases (h2 g).1 hg with rfl | e | e
  · exact h1.blk.lt
  · exact (h1.nl g e).2
  · exact h1.lows.lt e
theorem RsAt.turn {W W' : World} {R : Nat} {K S : Nat → Prop} {q : Sd} (h : RsAt W R K q) (ht : Turn S W W') (h0 : ∀ g, K g → ¬ S g) : RsAt W' R K q := by
  obtain ⟨lv, ys, h1, h2⟩ := h
  exact ⟨lv, ys, h1.turnS ht (h0 R ((h2 R).2 (.inl rfl))) (fun g hg => h0 g ((h2 g).2 (.inr (.inl hg)))) (fun y hy => ⟨fun h3 g hg => h0 g ((h2 g).2 (.inr (.inr ⟨y, hy, .inl ⟨h3, hg⟩⟩))), fun h3 g hg => h0 g ((h2 g).2 (.inr (.inr ⟨y, hy, .inr ⟨h3, hg⟩⟩)))⟩), h2⟩
theorem RsAt.below {W W' : World} {R : Nat} {K : Nat → Prop} {q : Sd} (h : RsAt W R K q) (hb : Below W.heap.size W W') : RsAt W' R K q := h.turn (Turn.of_below hb (S := fun _ => False)) (fun _ _ => id)
theorem RsAt.mk' {w w' : World} {R : Nat} {lv lv' : Value} {ys ys' : List SmV} {K : Nat → Prop} {q' : Sd} (hK : ∀ g, K g ↔ (g = R ∨ lv.ownBlock = some g ∨ SmsB ys g)) (h : RsObj w' R lv' ys' q') (hl : ∀ g, lv'.ownBlock = some g → lv.ownBlock = some g ∨ w.heap.size ≤ g) (hs : ∀ g, SmsB ys' g → SmsB ys g ∨ w.heap.size ≤ g) :
    ∃ K', RsAt w' R K' q' ∧ ∀ g, K' g → K g ∨ w.heap.size ≤ g :=
  ⟨fun g => g = R ∨ lv'.ownBlock = some g ∨ SmsB ys' g, ⟨lv', ys', h, fun _ => Iff.rfl⟩, fun g hg => by
    rcases hg with e | e | e
    · exact .inl ((hK g).2 (.inl e))
    · exact (hl g e).imp_left (fun e => (hK g).2 (.inr (.inl e)))
    · exact (hs g e).imp_left (fun e => (hK g).2 (.inr (.inr e)))⟩
theorem rbegin20_at (cap : Int) (w : World) : Calls Try.prog 8 #[.int .i64 cap] w fun e w' => ∃ R K, e = .returned (.pointer (some ⟨R, 0, none⟩)) ∧ RsAt w' R K ⟨cap, []⟩ ∧ (∀ g, K g → w.heap.size ≤ g) ∧ Below w.heap.size w w' :=
  (rbegin20_any cap w).mono (by
    rintro e w' ⟨rfl, h, hb⟩
    refine ⟨_, fun g => g = w.heap.size ∨ (Value.slice none 0 0).ownBlock = some g ∨ SmsB [] g, rfl, ⟨_, _, h, fun _ => Iff.rfl⟩, fun g hg => ?_, hb⟩
    rcases hg with rfl | e | ⟨y, hy, _⟩
    · exact Nat.le_refl _
    · cases e
    · cases hy)
section
variable {R : Nat} {K : Nat → Prop} {q : Sd} {w : World}
theorem ropen20_at (id win : Int) (h : RsAt w R K q) (hq : Small20 q) : Calls Try.prog 29 #[.pointer (some ⟨R, 0, none⟩), .int .i64 id, .int .i64 win] w fun e w' => ∃ K', e = .returned (.int .i64 (openE20 q id win)) ∧ RsAt w' R K' (openQ20 q id win) ∧ Turn K w w' ∧ ∀ g, K' g → K g ∨ w.heap.size ≤ g := by
  obtain ⟨lv, ys, h1, hK⟩ := h
  by_cases hb : 1 ≤ id ∧ id ≤ 2147483647 ∧ winB win = true
  · by_cases hi : q.l.any (hasId id) = true
    · have e1 : openE20 q id win = 6 := by unfold openE20; rw [if_pos hb, if_pos hi]
      refine (ropen20_is R lv ys q id win w h1 hb hi).mono ?_
      rintro e w' ⟨rfl, rfl⟩
      exact ⟨K, by rw [e1], by unfold openQ20; rw [e1, if_neg (by decide)]; exact ⟨lv, ys, h1, hK⟩, Turn.of_below (Below.refl _ _), fun g hg => .inl hg⟩
    · have hi : q.l.any (hasId id) = false := by simpa using hi
      have e1 : openE20 q id win = 0 := by unfold openE20; rw [if_pos hb, hi, if_neg (by decide)]
      refine (ropen20_yes R lv ys q id win w h1 hb hi (by have := hq.1; rw [h1.e, List.length_map] at this; omega)).mono ?_
      rintro e w' ⟨rfl, lv', h2, ht, hf⟩
      obtain ⟨K', h3, h4⟩ := RsAt.mk' hK h2 (fun g hg => .inr (hf g hg)) (fun g hg => by
        obtain ⟨y, hy, h5⟩ := hg
        rcases insV_mem hy with rfl | hy
        · rcases h5 with ⟨h5, _⟩ | ⟨h5, _⟩ <;> exact absurd rfl h5
        · exact .inl ⟨y, hy, h5⟩)
      exact ⟨K', by rw [e1], by unfold openQ20; rw [e1, if_pos rfl]; exact h3, ht.mono (fun g _ e => (hK g).2 (.inl e)), h4⟩
  · have e1 : openE20 q id win = 1 := by unfold openE20; rw [if_neg hb]
    refine (ropen20_arg R lv ys q id win w h1 (by
      by_cases h3 : winB win = true
      · by_cases h4 : id < 1
        · exact .inl h4
        · exact .inr (.inl (by
            by_cases h5 : 2147483647 < id
            · exact h5
            · exact absurd ⟨by omega, by omega, h3⟩ hb))
      · exact .inr (.inr (by simpa using h3)))).mono ?_
    rintro e w' ⟨rfl, rfl⟩
    exact ⟨K, by rw [e1], by unfold openQ20; rw [e1, if_neg (by decide)]; exact ⟨lv, ys, h1, hK⟩, Turn.of_below (Below.refl _ _), fun g hg => .inl hg⟩
theorem rhead20_at (id : Int) (bv : Value) (zs : List Int) (last : Bool) (h : RsAt w R K q) (hb : Sl .u8 w bv zs) : Calls Try.prog 30 #[.pointer (some ⟨R, 0, none⟩), .int .i64 id, bv, .bool last] w fun e w' => ∃ K', e = .returned (.int .i64 (headE20 q id zs)) ∧ RsAt w' R K' (headQ20 q id zs last) ∧ Turn K w w' ∧ ∀ g, K' g → K g ∨ w.heap.size ≤ g := by
  obtain ⟨lv, ys, h1, hK⟩ := h
  have same : ∀ {E : Int}, headE20 q id zs = E → headQ20 q id zs last = q → ∃ K', Ending.returned (.int .i64 E) = .returned (.int .i64 (headE20 q id zs)) ∧ RsAt w R K' (headQ20 q id zs last) ∧ Turn K w w ∧ ∀ g, K' g → K g ∨ w.heap.size ≤ g := fun e1 e2 =>
    ⟨K, by rw [e1], by rw [e2]; exact ⟨lv, ys, h1, hK⟩, Turn.of_below (Below.refl _ _), fun g hg => .inl hg⟩
  by_cases hi : q.l.any (hasId id) = true
  · obtain ⟨k, x, hat, hx, hg, hp, _⟩ := get20_some hi
    obtain ⟨xv, bx, hy⟩ := h1.get hx
    by_cases hs : x.said = true
    · have e1 : headE20 q id zs = 6 := by unfold headE20; rw [hg]; exact if_pos hs
      refine (rhead20_said R lv ys q id bv last k _ w h1 hat hy hs).mono ?_
      rintro e w' ⟨rfl, rfl⟩
      exact same e1 (by unfold headQ20; rw [hg]; exact if_neg (by rw [e1]; decide))
    · have hs' : x.said = false := by simpa using hs
      by_cases hz : 16384 < zs.length
      · have e1 : headE20 q id zs = 1 := by unfold headE20; rw [hg]; dsimp only; rw [if_neg hs, if_pos hz]
        refine (rhead20_long R lv ys q id bv zs last k _ w h1 hat hy hs' hb hz).mono ?_
        rintro e w' ⟨rfl, rfl⟩
        exact same e1 (by unfold headQ20; rw [hg]; exact if_neg (by rw [e1]; decide))
      · have e1 : headE20 q id zs = 0 := by unfold headE20; rw [hg]; dsimp only; rw [if_neg hs, if_neg hz]
        refine (rhead20_yes R lv ys q id bv zs last k _ w h1 hat hy hs' hb (by omega)).mono ?_
        rintro e w' ⟨rfl, hv', h2, ht, hf⟩
        obtain ⟨K', h3, h4⟩ := RsAt.mk' (w := w) hK h2 (fun g hg => .inl hg) (fun g hg => by
          rcases hg.set with hg | ⟨_, hg⟩ | ⟨h5, hg⟩
          · exact .inl hg
          · exact .inr (hf g hg)
          · exact .inl ⟨_, List.mem_of_getElem? hy, .inr ⟨h5, hg⟩⟩)
        exact ⟨K', by rw [e1], by unfold headQ20; rw [hg]; dsimp only; rw [if_pos e1, hp]; exact h3, ht.mono (fun g _ e => (hK g).2 (.inr (.inl e))), h4⟩
  · have hi : q.l.any (hasId id) = false := by simpa using hi
    refine (rhead20_none R lv ys q id bv last w h1 hi).mono ?_
    rintro e w' ⟨rfl, rfl⟩
    exact same (by unfold headE20; rw [get20_none hi]) (by unfold headQ20; rw [get20_none hi])
theorem rdata20_at (id : Int) (bv : Value) (zs : List Int) (last : Bool) (h : RsAt w R K q) (hb : Sl .u8 w bv zs) (hq : Small20 q) (hz : zs.length ≤ 1000000) : Calls Try.prog 31 #[.pointer (some ⟨R, 0, none⟩), .int .i64 id, bv, .bool last] w fun e w' => ∃ K', e = .returned (.int .i64 (dataE20 q id zs)) ∧ RsAt w' R K' (dataQ20 q id zs last) ∧ Turn K w w' ∧ ∀ g, K' g → K g ∨ w.heap.size ≤ g := by
  obtain ⟨lv, ys, h1, hK⟩ := h
  have same : ∀ {E : Int} {w' : World}, dataE20 q id zs = E → dataQ20 q id zs last = q → Below w.heap.size w w' → ∃ K', Ending.returned (.int .i64 E) = .returned (.int .i64 (dataE20 q id zs)) ∧ RsAt w' R K' (dataQ20 q id zs last) ∧ Turn K w w' ∧ ∀ g, K' g → K g ∨ w.heap.size ≤ g := fun e1 e2 hb =>
    ⟨K, by rw [e1], by rw [e2]; exact RsAt.below ⟨lv, ys, h1, hK⟩ hb, Turn.of_below hb, fun g hg => .inl hg⟩
  by_cases hi : q.l.any (hasId id) = true
  · obtain ⟨k, x, hat, hx, hg, hp, _⟩ := get20_some hi
    obtain ⟨xv, bx, hy⟩ := h1.get hx
    by_cases hs : x.said = true ∧ x.fin = false
    · have hl : ys.length ≤ 1000 := by have := hq.1; rw [h1.e, List.length_map] at this; exact this
      have hpl : ∀ y ∈ ys, y.x.b.length ≤ 1000000 := fun y hy => (hq.2 y.x (by rw [h1.e]; exact List.mem_map_of_mem hy)).2.1
      by_cases hf : q.cap < sumB q.l + zs.length
      · have e1 : dataE20 q id zs = 4 := by unfold dataE20; rw [hg]; dsimp only; rw [if_pos hs, if_pos hf]
        refine (rdata20_full R lv ys q id bv zs last k _ w h1 hat hy hs.1 hs.2 hb hl hpl hz hf).mono ?_
        rintro e w' ⟨rfl, n, rfl⟩
        exact same e1 (by unfold dataQ20; rw [hg]; exact if_neg (by rw [e1]; decide)) (below_drewN (Below.refl _ _) n)
      · have e1 : dataE20 q id zs = 0 := by unfold dataE20; rw [hg]; dsimp only; rw [if_pos hs, if_neg hf]
        refine (rdata20_yes R lv ys q id bv zs last k _ w h1 hat hy hs.1 hs.2 hb hl hpl hz (by omega)).mono ?_
        rintro e w' ⟨rfl, bv', h2, ht, hf⟩
        obtain ⟨K', h3, h4⟩ := RsAt.mk' (w := w) hK h2 (fun g hg => .inl hg) (fun g hg => by
          rcases hg.set with hg | ⟨h5, hg⟩ | ⟨_, hg⟩
          · exact .inl hg
          · exact .inl ⟨_, List.mem_of_getElem? hy, .inl ⟨h5, hg⟩⟩
          · exact .inr (hf g hg))
        exact ⟨K', by rw [e1], by unfold dataQ20; rw [hg]; dsimp only; rw [if_pos e1, hp]; exact h3, ht.mono (fun g _ e => (hK g).2 (.inr (.inl e))), h4⟩
    · have e1 : dataE20 q id zs = 6 := by unfold dataE20; rw [hg]; exact if_neg hs
      refine (rdata20_state R lv ys q id bv last k _ w h1 hat hy hs).mono ?_
      rintro e w' ⟨rfl, rfl⟩
      exact same e1 (by unfold dataQ20; rw [hg]; exact if_neg (by rw [e1]; decide)) (Below.refl _ _)
  · have hi : q.l.any (hasId id) = false := by simpa using hi
    refine (rdata20_none R lv ys q id bv last w h1 hi).mono ?_
    rintro e w' ⟨rfl, rfl⟩
    exact same (by unfold dataE20; rw [get20_none hi]) (by unfold dataQ20; rw [get20_none hi]) (Below.refl _ _)
theorem rgrow20_at (id n : Int) (h : RsAt w R K q) : Calls Try.prog 32 #[.pointer (some ⟨R, 0, none⟩), .int .i64 id, .int .i64 n] w fun e w' => ∃ K', e = .returned (.tuple #[.bool (growO20 q id n), .int .i64 (growE20 q id)]) ∧ RsAt w' R K' (growQ20 q id n) ∧ Turn K w w' ∧ ∀ g, K' g → K g ∨ w.heap.size ≤ g := by
  obtain ⟨lv, ys, h1, hK⟩ := h
  by_cases hi : q.l.any (hasId id) = true
  · obtain ⟨k, x, hat, hx, hg, hp, _⟩ := get20_some hi
    obtain ⟨xv, bx, hy⟩ := h1.get hx
    refine (rgrow20_yes R lv ys q id n k _ w h1 hat hy).mono ?_
    rintro e w' ⟨rfl, h2, ht⟩
    obtain ⟨K', h3, h4⟩ := RsAt.mk' (w := w) hK h2 (fun g hg => .inl hg) (fun g hg => by
      rcases hg.set with hg | ⟨h5, hg⟩ | ⟨h5, hg⟩
      · exact .inl hg
      · exact .inl ⟨_, List.mem_of_getElem? hy, .inl ⟨h5, hg⟩⟩
      · exact .inl ⟨_, List.mem_of_getElem? hy, .inr ⟨h5, hg⟩⟩)
    exact ⟨K', by unfold growO20 growE20; rw [hg, if_pos hi], by unfold growQ20; rw [hg]; dsimp only; rw [hp]; exact h3, ht.mono (fun g _ e => (hK g).2 (.inr (.inl e))), h4⟩
  · have hi : q.l.any (hasId id) = false := by simpa using hi
    refine (rgrow20_no R lv ys q id n w h1 hi).mono ?_
    rintro e w' ⟨rfl, rfl⟩
    exact ⟨K, by unfold growO20 growE20; rw [get20_none hi, hi]; rfl, by unfold growQ20; rw [get20_none hi]; exact ⟨lv, ys, h1, hK⟩, Turn.of_below (Below.refl _ _), fun g hg => .inl hg⟩
theorem rshift20_at (d : Int) (h : RsAt w R K q) : Calls Try.prog 33 #[.pointer (some ⟨R, 0, none⟩), .int .i64 d] w fun e w' => ∃ K', e = .returned (.int .i64 (shiftN q.l d)) ∧ RsAt w' R K' (shiftS q d) ∧ Turn K w w' ∧ ∀ g, K' g → K g ∨ w.heap.size ≤ g := by
  obtain ⟨lv, ys, h1, hK⟩ := h
  refine (rshift20_any R lv ys q d w h1).mono ?_
  rintro e w' ⟨rfl, zs, h2, ht, hz⟩
  obtain ⟨K', h3, h4⟩ := RsAt.mk' (w := w) hK h2 (fun g hg => .inl hg) (fun g hg => by
    rcases hz with rfl | rfl
    · exact .inl hg
    · obtain ⟨y, hy, h5⟩ := hg
      obtain ⟨z, hz, rfl⟩ := List.mem_map.1 hy
      exact .inl ⟨z, hz, h5⟩)
  exact ⟨K', rfl, h3, ht.mono (fun g _ e => (hK g).2 (.inr (.inl e))), h4⟩
theorem rdrop20_at (id : Int) (h : RsAt w R K q) (hq : Small20 q) : Calls Try.prog 34 #[.pointer (some ⟨R, 0, none⟩), .int .i64 id] w fun e w' => ∃ K', e = .returned (.int .i64 (dropE20 q id)) ∧ RsAt w' R K' (dropS q id) ∧ Turn K w w' ∧ ∀ g, K' g → K g ∨ w.heap.size ≤ g := by
  obtain ⟨lv, ys, h1, hK⟩ := h
  by_cases hi : q.l.any (hasId id) = true
  · obtain ⟨k, x, hat, hx, hg, hp, _⟩ := get20_some hi
    refine (rdrop20_yes R lv ys q id k w h1 hat (by have := hq.1; rw [h1.e, List.length_map] at this; omega)).mono ?_
    rintro e w' ⟨rfl, lv', h2, ht, hf⟩
    obtain ⟨K', h3, h4⟩ := RsAt.mk' (w := w) hK h2 (fun g hg => .inr (hf g hg)) (fun g hg => .inl hg.kept)
    exact ⟨K', by unfold dropE20; rw [if_pos hi], h3, ht.mono (fun g _ e => (hK g).2 (.inl e)), h4⟩
  · have hi : q.l.any (hasId id) = false := by simpa using hi
    refine (rdrop20_none R lv ys q id w h1 hi).mono ?_
    rintro e w' ⟨rfl, rfl⟩
    exact ⟨K, by unfold dropE20; rw [hi]; rfl, by rw [dropS_none hi]; exact ⟨lv, ys, h1, hK⟩, Turn.of_below (Below.refl _ _), fun g hg => .inl hg⟩
theorem rnext20_at (room most : Int) (h : RsAt w R K q) (hF : (Lit.int .i64 room).wf = true ∧ (Lit.int .i64 most).wf = true) (hq : Small20 q) : Calls Try.prog 35 #[.pointer (some ⟨R, 0, none⟩), .int .i64 room, .int .i64 most] w fun e w' => ∃ fv K', e = .returned (.tuple #[fv, .bool (nextO q room most)]) ∧ FrK w' fv (nextF20 q room most) K ∧ RsAt w' R K' (nextS q room most) ∧ Turn K w w' ∧ ∀ g, K' g → K g ∨ w.heap.size ≤ g := by
  obtain ⟨lv, ys, h1, hK⟩ := h
  refine (rnext20_any R lv ys q room most w h1 hF hq).mono ?_
  rintro e w' ⟨fv, lv', ys', rfl, ⟨pv, rfl, hp1, hp2⟩, h2, ht, hl, hs⟩
  obtain ⟨K', h3, h4⟩ := RsAt.mk' (w := w) hK h2 hl (fun g hg => .inl (hs g hg))
  exact ⟨_, K', rfl, ⟨pv, rfl, hp1, fun h5 g hg => (hK g).2 (.inr (.inr (hp2 h5 g hg)))⟩, h3, ht.mono (fun g _ e => (hK g).2 (e.imp_right .inl)), h4⟩
theorem rids20_at (h : RsAt w R K q) (hq : Small20 q) (hw : ∀ x ∈ q.l, (Lit.int .i64 x.id).wf = true) : Calls Try.prog 14 #[.pointer (some ⟨R, 0, none⟩)] w fun e w' => ∃ v, e = .returned v ∧ Sl .i64 w' v (q.l.map (·.id)) ∧ Below w.heap.size w w' ∧ ∀ g, v.ownBlock = some g → w.heap.size ≤ g := by
  obtain ⟨lv, ys, h1, hK⟩ := h
  refine (rids20_any R lv ys q w h1 (by have := hq.1; rw [h1.e, List.length_map] at this; omega) (fun y hy => hw y.x (by rw [h1.e]; exact List.mem_map_of_mem hy))).mono ?_
  rintro e w' ⟨v, rfl, ho, hs, hb⟩
  exact ⟨v, rfl, hs, hb, fun g hg => (ho.lt g hg).1⟩
theorem rwaiting20_at (h : RsAt w R K q) (hq : Small20 q) : Calls Try.prog 16 #[.pointer (some ⟨R, 0, none⟩)] w fun e w' => e = .returned (.int .i64 (sumB q.l : Nat)) ∧ w' = w := by
  obtain ⟨lv, ys, h1, hK⟩ := h
  exact rwaiting20_any R lv ys q w h1 (by have := hq.1; rw [h1.e, List.length_map] at this; exact this) (fun y hy => (hq.2 y.x (by rw [h1.e]; exact List.mem_map_of_mem hy)).2.1)
theorem rheads20_at (h : RsAt w R K q) (hq : Small20 q) : Calls Try.prog 18 #[.pointer (some ⟨R, 0, none⟩)] w fun e w' => e = .returned (.int .i64 (sumH q.l : Nat)) ∧ w' = w := by
  obtain ⟨lv, ys, h1, hK⟩ := h
  exact rheads20_any R lv ys q w h1 (by have := hq.1; rw [h1.e, List.length_map] at this; exact this) (fun y hy => (hq.2 y.x (by rw [h1.e]; exact List.mem_map_of_mem hy)).2.2)
end
end Go.Proofs.Ytnoegbdmjinfjaa
