
/-
  The statements of layer 4: their live question, its closed answers.
-/
import Derived.Test.YtimggejonppegaaDoorHuffDec
import Derived.Deep.RegionWith
import Derived.Lib.SmallJoins
namespace Go.Proofs.YtimggejonppegaaDoor
open Go.RowKit

theorem enc_any (v : Value) (zs : List Int) (w : World) (hv : Sl .u8 w v zs) (hz : zs.length ≤ 1000000) :
    Calls Tryd.prog 43 #[v] w fun e w' => ∃ v', e = .returned v' ∧ Sl .u8 w' v' (enc zs) ∧ Below w.heap.size w w' :=
  (enc_own v zs w hv hz).mono fun e w' ⟨v', he, hO, hb⟩ => ⟨v', he, Sl.of_own hO (enc_fit _) (by have := sizeT_le zs hv.fit; rw [enc_length]; unfold maxLen; omega), hb⟩

/-- a text of the live question, and its bytes -/
def aText : List Int := [119, 119, 119, 46, 101, 120, 97, 109, 112, 108, 101, 46, 99, 111, 109]
def aBytes : List Int := [241, 227, 194, 229, 242, 58, 107, 160, 171, 144, 244, 255]
def aHead : List Int := [119, 119, 119, 46, 101, 120, 97, 109, 112, 108, 101, 46, 99, 111]
def cText : List Int := [51, 48, 50]
theorem aFit : Fit .u8 aText := by intro n hn; revert n; decide
theorem aFitB : Fit .u8 aBytes := by intro n hn; revert n; decide
theorem aFitH : Fit .u8 aHead := by intro n hn; revert n; decide
theorem cFit : Fit .u8 cText := by intro n hn; revert n; decide
theorem enc_of {zs bs : List Int} (hf : Fit .u8 bs) (h : pad (bitsT zs) = bitsB bs) : enc zs = bs := by rw [enc, h, grp_bitsB bs hf]
theorem al_enc : enc aText = aBytes := enc_of aFitB (by decide +kernel)
theorem al_dec : decB 15 aBytes = (aText, 0) := by rw [← al_enc]; exact dec_enc aFit (by decide)
theorem al_full : decB 14 aBytes = ([], 4) := by
  rw [← al_enc, decB, bitsB_enc, pad, show bitsT aText = bitsT aHead ++ bitsT [109] by decide +kernel, List.append_assoc, dec_text aFitH (by decide)]
  rw [show bitsT [109] = bitsOf (len 109) (code 109) by decide +kernel, dec_code (by decide), if_pos (by decide)]
theorem dec_last {most : Int} {bs : List Nat} {out : List Int} : dec most (List.replicate 30 1 ++ bs) out 0 0 = ([], 3) := by
  have h : List.replicate 30 1 = (bitsOf (len 256) (code 256)).take 29 ++ [1] := by decide +kernel
  rw [h, List.append_assoc, dec_walk (by decide) (by rw [len_end]; decide), List.singleton_append]
  have e : 2 * (code 256 / 2 ^ (len 256 - 29)) + 1 = code 256 := by decide +kernel
  rw [dec_some (c := 256), if_pos rfl]
  rw [e, show 29 + 1 = len 256 from len_end.symm]
  exact look_is (by decide)
theorem al_end : decB 99 [255, 255, 255, 255] = ([], 3) := by
  rw [decB, show bitsB [255, 255, 255, 255] = List.replicate 30 1 ++ [1, 1] by decide +kernel]
  exact dec_last
theorem al_rest : decB 99 [24] = ([], 3) := by
  rw [decB, show bitsB [24] = bitsOf (len 97) (code 97) ++ [0, 0, 0] by decide +kernel, dec_code (by decide), if_neg (by decide), dec_none (look_short (by decide)), dec_none (look_short (by decide)), dec_none (look_short (by decide))]
  rfl
theorem al_enc2 : enc cText = [100, 2] := enc_of (by intro n hn; revert n; decide) (by decide +kernel)
theorem al_dec2 : decB 9 [100, 2] = (cText, 0) := by rw [← al_enc2]; exact dec_enc cFit (by decide)
theorem al_size : sizeT cText = 2 := by rw [← enc_length, al_enc2]; rfl
theorem al_len : lenZ 97 = 5 := by decide +kernel
theorem al_code : codeZ 97 = 3 := by decide +kernel
theorem al_codeE : codeZ 256 = 1073741823 := by decide +kernel

/-- a literal whose text is marked -/
theorem Sl.mark {k : IntKind} {w : World} {g n : Nat} {e : TypeId} {fr : Nat × Nat} {cs : Array Value} (zs : List Int) (hg : g = w.heap.size) (hc : cs = (zs.map (Value.int k)).toArray) (hn : n = zs.length) (hf : Fit k zs) (hm : zs.length ≤ maxLen) :
    Sl k (w.alloc (.cells cs e fr)) (.slice (some ⟨g, 0, none⟩) n n) zs := by
  subst hg; subst hc; subst hn
  refine ⟨_, _, rfl, Nat.le_refl _, hm, hf, .inr ⟨_, 0, rfl, by simp, fun i hi => ?_⟩⟩
  rw [Go.Joins.cell_alloc_mark_at _ _ _ _ _ _ rfl]
  simp [at0, hi]
theorem dec_is (v : Value) (zs : List Int) (most : Int) (w : World) (hv : Sl .u8 w v zs) (hz : zs.length ≤ 1000000) (t : List Int) (z : Int) (h : decB most zs = (t, z)) :
    Calls Tryd.prog 55 #[v, .int .i64 most] w fun e w' => ∃ v', e = .returned (.tuple #[v', .int .i64 z]) ∧ Sl .u8 w' v' t ∧ Below w.heap.size w w' := by
  have := dec_any v zs most w hv hz
  rw [h] at this
  exact this
end Go.Proofs.YtimggejonppegaaDoor
