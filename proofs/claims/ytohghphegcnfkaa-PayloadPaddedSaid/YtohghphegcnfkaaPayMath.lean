
/-
  Layer 11: what frames say, by definition. No function of the program is named here.
-/
import Derived.Test.YtohghphegcnfkaaFrameKit
import Derived.Test.YtohghphegcnfkaaPairKit
namespace Go.Proofs.Ytohghphegcnfkaa
set_option maxRecDepth 20000
open Go.RowKit

/-- what a frame says -/
structure Pt where
  bytes : List Int
  pairs : List Pr
  code : Int
  last : Int
  add : Int
  flow : Int
  fin : Bool
  whole : Bool
  acked : Bool
def Pt.zero : Pt := ⟨[], [], 0, 0, 0, 0, false, false, false⟩
/-- the value 'v' reads as that -/
def PtV (w : World) (v : Value) (p : Pt) : Prop :=
  ∃ bv pv, v = .agg #[bv, pv, .int .i64 p.code, .int .i64 p.last, .int .i64 p.add, .int .i64 p.flow, .bool p.fin, .bool p.whole, .bool p.acked] ∧ Sl .u8 w bv p.bytes ∧ SlP w pv p.pairs
theorem PtV.below {w w' : World} {v : Value} {p : Pt} (h : PtV w v p) (hb : Below w.heap.size w w') : PtV w' v p := by
  obtain ⟨bv, pv, rfl, h1, h2⟩ := h
  exact ⟨bv, pv, rfl, h1.below hb, h2.below hb⟩
/-- an answer: what it says, the fault's code and stream, whether it has none -/
abbrev Rd := Pt × (Int × Int) × Bool
def wrongP (c s : Int) : Rd := (Pt.zero, (c, s), false)
def okP (p : Pt) : Rd := (p, (0, 0), true)
def flagB (f : Fr) (n : Int) : Bool := f.flags / n % 2 == 1
/-- the payload without padding: its code, if it is wrong -/
def unpadF (f : Fr) : Int × List Int :=
  bif flagB f 8 then
    match f.pay with
    | [] => (6, [])
    | n :: r => if (r.length : Int) < n then (1, []) else (0, r.take (r.length - n.toNat))
  else (0, f.pay)
def lowF (b : List Int) : Int := num (b.take 4) % 2147483648
def pairsF : Nat → List Int → List Pr
  | 0, _ => []
  | k + 1, b => (num (b.take 2), num ((b.drop 2).take 4)) :: pairsF k (b.drop 6)
def dataF (f : Fr) : Rd :=
  if f.stream = 0 then wrongP 1 0 else if (unpadF f).1 ≠ 0 then wrongP (unpadF f).1 0
  else okP { Pt.zero with bytes := (unpadF f).2, fin := flagB f 1, flow := f.pay.length }
def headF (f : Fr) : Rd :=
  if f.stream = 0 then wrongP 1 0 else if (unpadF f).1 ≠ 0 then wrongP (unpadF f).1 0
  else if flagB f 32 = true ∧ (unpadF f).2.length < 5 then wrongP 6 0
  else if flagB f 32 = true ∧ lowF (unpadF f).2 = f.stream then wrongP 1 0
  else okP { Pt.zero with bytes := bif flagB f 32 then (unpadF f).2.drop 5 else (unpadF f).2, fin := flagB f 1, whole := flagB f 4 }
def prioF (f : Fr) : Rd :=
  if f.stream = 0 then wrongP 1 0 else if f.pay.length ≠ 5 then wrongP 6 f.stream else if lowF f.pay = f.stream then wrongP 1 f.stream else okP Pt.zero
def resetF (f : Fr) : Rd := if f.stream = 0 then wrongP 1 0 else if f.pay.length ≠ 4 then wrongP 6 0 else okP { Pt.zero with code := num f.pay }
def contF (f : Fr) : Rd := if f.stream = 0 then wrongP 1 0 else okP { Pt.zero with bytes := f.pay, whole := flagB f 4 }
def settF (f : Fr) : Rd :=
  if f.stream ≠ 0 then wrongP 1 0 else if (flagB f 1 = true ∧ 0 < f.pay.length) ∨ f.pay.length % 6 ≠ 0 then wrongP 6 0
  else okP { Pt.zero with acked := flagB f 1, pairs := pairsF (f.pay.length / 6) f.pay }
def pingF (f : Fr) : Rd := if f.stream ≠ 0 then wrongP 1 0 else if f.pay.length ≠ 8 then wrongP 6 0 else okP { Pt.zero with bytes := f.pay, acked := flagB f 1 }
def awayF (f : Fr) : Rd := if f.stream ≠ 0 then wrongP 1 0 else if f.pay.length < 8 then wrongP 6 0 else okP { Pt.zero with last := lowF f.pay, code := num ((f.pay.drop 4).take 4) }
def updF (f : Fr) : Rd := if f.pay.length ≠ 4 then wrongP 6 0 else if lowF f.pay = 0 then wrongP 1 f.stream else okP { Pt.zero with add := lowF f.pay }
/-- what a frame says -/
def readF (f : Fr) : Rd :=
  if ¬ f.right then wrongP 2 0
  else if f.kind = 0 then dataF f else if f.kind = 1 then headF f else if f.kind = 2 then prioF f else if f.kind = 3 then resetF f else if f.kind = 4 then settF f
  else if f.kind = 5 then wrongP 1 0 else if f.kind = 6 then pingF f else if f.kind = 7 then awayF f else if f.kind = 8 then updF f else if f.kind = 9 then contF f else okP Pt.zero
/-- a frame padded -/
def padF (f : Fr) (n : Nat) : Fr := ⟨f.kind, f.flags + 8, f.stream, (n : Int) :: f.pay ++ List.replicate n 0⟩
theorem pad_flag {f : Fr} {n : Nat} (h8 : f.flags / 8 % 2 ≠ 1) : flagB (padF f n) 1 = flagB f 1 ∧ flagB (padF f n) 4 = flagB f 4 ∧ flagB (padF f n) 32 = flagB f 32 ∧ flagB (padF f n) 8 = true ∧ flagB f 8 = false := by
  have hq : f.flags / 8 % 2 = 0 := by omega
  refine ⟨?_, ?_, ?_, ?_, ?_⟩
  · show ((f.flags + 8) / 1 % 2 == 1) = (f.flags / 1 % 2 == 1)
    rw [show (f.flags + 8) / 1 % 2 = f.flags / 1 % 2 by omega]
  · show ((f.flags + 8) / 4 % 2 == 1) = (f.flags / 4 % 2 == 1)
    rw [show (f.flags + 8) / 4 % 2 = f.flags / 4 % 2 by omega]
  · show ((f.flags + 8) / 32 % 2 == 1) = (f.flags / 32 % 2 == 1)
    rw [show (f.flags + 8) / 32 % 2 = f.flags / 32 % 2 by omega]
  · show ((f.flags + 8) / 8 % 2 == 1) = true
    rw [show (f.flags + 8) / 8 % 2 = 1 by omega]; rfl
  · show (f.flags / 8 % 2 == 1) = false
    rw [hq]; rfl
theorem pad_unpad {f : Fr} {n : Nat} (h8 : f.flags / 8 % 2 ≠ 1) : unpadF (padF f n) = (0, f.pay) ∧ unpadF f = (0, f.pay) := by
  obtain ⟨_, _, _, h4, h5⟩ := pad_flag (n := n) h8
  unfold unpadF
  rw [h4, h5]
  refine ⟨?_, rfl⟩
  have hp : (padF f n).pay = (n : Int) :: (f.pay ++ List.replicate n 0) := by simp [padF]
  rw [hp]
  simp only [cond_true, List.length_append, List.length_replicate, Int.toNat_natCast, Nat.add_sub_cancel, List.take_left]
  rw [if_neg (by omega)]
theorem pad_right {f : Fr} {n : Nat} (h0 : 0 ≤ f.flags) (h1 : f.flags ≤ 255) (h8 : f.flags / 8 % 2 ≠ 1) (hl : f.pay.length ≤ 500) (hn : n ≤ 255) : (padF f n).right ↔ f.right := by
  have hp : ((padF f n).pay.length : Int) = f.pay.length + n + 1 := by simp [padF]
  have h9 : f.flags ≤ 247 := by omega
  unfold Fr.right
  rw [hp]
  show (0 ≤ f.kind ∧ f.kind ≤ 255 ∧ 0 ≤ f.flags + 8 ∧ f.flags + 8 ≤ 255 ∧ 0 ≤ f.stream ∧ f.stream ≤ 2147483647 ∧ _) ↔ _
  constructor
  · rintro ⟨a, b, _, _, c, d, _⟩; exact ⟨a, b, h0, h1, c, d, by omega⟩
  · rintro ⟨a, b, _, _, c, d, _⟩; exact ⟨a, b, by omega, by omega, c, d, by omega⟩
/-- padded, it says the same, but for how much it counts -/
theorem pad_same {f : Fr} {n : Nat} (hk : f.kind = 0 ∨ f.kind = 1) (h0 : 0 ≤ f.flags) (h1 : f.flags ≤ 255) (h8 : f.flags / 8 % 2 ≠ 1) (hl : f.pay.length ≤ 500) (hn : n ≤ 255) :
    (readF (padF f n)).2 = (readF f).2 ∧ { (readF (padF f n)).1 with flow := (readF f).1.flow } = (readF f).1 ∧
      ((readF f).2.2 = true → f.kind = 0 → (readF f).1.flow = f.pay.length ∧ (readF (padF f n)).1.flow = (padF f n).pay.length) := by
  obtain ⟨g1, g4, g32, _, _⟩ := pad_flag (n := n) h8
  obtain ⟨u1, u2⟩ := pad_unpad (n := n) h8
  have hr := pad_right (n := n) h0 h1 h8 hl hn
  have hs : (padF f n).stream = f.stream := rfl
  have hki : (padF f n).kind = f.kind := rfl
  unfold readF
  by_cases hR : f.right
  · rw [if_neg (show ¬ ¬ (padF f n).right from fun q => q (hr.2 hR)), if_neg (show ¬ ¬ f.right from fun q => q hR), hki]
    rcases hk with hk | hk
    · rw [if_pos hk, if_pos hk]
      unfold dataF
      rw [hs, u1, u2, g1]
      by_cases h : f.stream = 0
      · rw [if_pos h, if_pos h]
        exact ⟨rfl, rfl, fun q => by cases q⟩
      · rw [if_neg h, if_neg h]
        exact ⟨rfl, rfl, fun _ _ => ⟨rfl, rfl⟩⟩
    · have e : headF (padF f n) = headF f := by
        unfold headF
        rw [hs, u1, u2, g1, g4, g32]
      rw [hk]
      simp only [show ¬ ((1 : Int) = 0) by decide, if_false, if_true]
      rw [e]
      exact ⟨rfl, rfl, fun _ q => absurd q (by decide)⟩
  · rw [if_pos (show ¬ (padF f n).right from fun q => hR (hr.1 q)), if_pos hR]
    exact ⟨rfl, rfl, fun q => by cases q⟩
end Go.Proofs.Ytohghphegcnfkaa
