
/-
  Layer 4, plain mathematics: lengths and codes; no code begins another one. No program is named here.
-/
import Derived.Test.YtimggejonppegaaDoorKit
namespace Go.Proofs.YtimggejonppegaaDoor

def lenN : List Nat := [13, 23, 28, 28, 28, 28, 28, 28, 28, 24, 30, 28, 28, 30, 28, 28, 28, 28, 28, 28, 28, 28, 30, 28, 28, 28, 28, 28, 28, 28, 28, 28, 6, 10, 10, 12, 13, 6, 8, 11, 10, 10, 8, 11, 8, 6, 6, 6, 5, 5, 5, 6, 6, 6, 6, 6, 6, 6, 7, 8, 15, 6, 12, 10, 13, 6, 7, 7, 7, 7, 7, 7, 7, 7, 7, 7, 7, 7, 7, 7, 7, 7, 7, 7, 7, 7, 7, 7, 8, 7, 8, 13, 19, 13, 14, 6, 15, 5, 6, 5, 6, 5, 6, 6, 6, 5, 7, 7, 6, 6, 6, 5, 6, 7, 6, 5, 5, 6, 7, 7, 7, 7, 7, 15, 11, 14, 13, 28, 20, 22, 20, 20, 22, 22, 22, 23, 22, 23, 23, 23, 23, 23, 24, 23, 24, 24, 22, 23, 24, 23, 23, 23, 23, 21, 22, 23, 22, 23, 23, 24, 22, 21, 20, 22, 22, 23, 23, 21, 23, 22, 22, 24, 21, 22, 23, 23, 21, 21, 22, 21, 23, 22, 23, 23, 20, 22, 22, 22, 23, 22, 22, 23, 26, 26, 20, 19, 22, 23, 22, 25, 26, 26, 26, 27, 27, 26, 24, 25, 19, 21, 26, 27, 27, 26, 27, 24, 21, 21, 26, 26, 28, 27, 27, 27, 20, 24, 20, 21, 22, 21, 21, 23, 22, 22, 25, 25, 24, 24, 26, 23, 26, 27, 26, 26, 27, 27, 27, 27, 27, 28, 27, 27, 27, 27, 27, 26, 30]
def codeN : List Nat := [8184, 8388568, 268435426, 268435427, 268435428, 268435429, 268435430, 268435431, 268435432, 16777194, 1073741820, 268435433, 268435434, 1073741821, 268435435, 268435436, 268435437, 268435438, 268435439, 268435440, 268435441, 268435442, 1073741822, 268435443, 268435444, 268435445, 268435446, 268435447, 268435448, 268435449, 268435450, 268435451, 20, 1016, 1017, 4090, 8185, 21, 248, 2042, 1018, 1019, 249, 2043, 250, 22, 23, 24, 0, 1, 2, 25, 26, 27, 28, 29, 30, 31, 92, 251, 32764, 32, 4091, 1020, 8186, 33, 93, 94, 95, 96, 97, 98, 99, 100, 101, 102, 103, 104, 105, 106, 107, 108, 109, 110, 111, 112, 113, 114, 252, 115, 253, 8187, 524272, 8188, 16380, 34, 32765, 3, 35, 4, 36, 5, 37, 38, 39, 6, 116, 117, 40, 41, 42, 7, 43, 118, 44, 8, 9, 45, 119, 120, 121, 122, 123, 32766, 2044, 16381, 8189, 268435452, 1048550, 4194258, 1048551, 1048552, 4194259, 4194260, 4194261, 8388569, 4194262, 8388570, 8388571, 8388572, 8388573, 8388574, 16777195, 8388575, 16777196, 16777197, 4194263, 8388576, 16777198, 8388577, 8388578, 8388579, 8388580, 2097116, 4194264, 8388581, 4194265, 8388582, 8388583, 16777199, 4194266, 2097117, 1048553, 4194267, 4194268, 8388584, 8388585, 2097118, 8388586, 4194269, 4194270, 16777200, 2097119, 4194271, 8388587, 8388588, 2097120, 2097121, 4194272, 2097122, 8388589, 4194273, 8388590, 8388591, 1048554, 4194274, 4194275, 4194276, 8388592, 4194277, 4194278, 8388593, 67108832, 67108833, 1048555, 524273, 4194279, 8388594, 4194280, 33554412, 67108834, 67108835, 67108836, 134217694, 134217695, 67108837, 16777201, 33554413, 524274, 2097123, 67108838, 134217696, 134217697, 67108839, 134217698, 16777202, 2097124, 2097125, 67108840, 67108841, 268435453, 134217699, 134217700, 134217701, 1048556, 16777203, 1048557, 2097126, 4194281, 2097127, 2097128, 8388595, 4194282, 4194283, 33554414, 33554415, 16777204, 16777205, 67108842, 8388596, 67108843, 134217702, 67108844, 67108845, 134217703, 134217704, 134217705, 134217706, 134217707, 268435454, 134217708, 134217709, 134217710, 134217711, 134217712, 67108846, 1073741823]
def ordN : List Nat := [48, 49, 50, 97, 99, 101, 105, 111, 115, 116, 32, 37, 45, 46, 47, 51, 52, 53, 54, 55, 56, 57, 61, 65, 95, 98, 100, 102, 103, 104, 108, 109, 110, 112, 114, 117, 58, 66, 67, 68, 69, 70, 71, 72, 73, 74, 75, 76, 77, 78, 79, 80, 81, 82, 83, 84, 85, 86, 87, 89, 106, 107, 113, 118, 119, 120, 121, 122, 38, 42, 44, 59, 88, 90, 33, 34, 40, 41, 63, 39, 43, 124, 35, 62, 0, 36, 64, 91, 93, 126, 94, 125, 60, 96, 123, 92, 195, 208, 128, 130, 131, 162, 184, 194, 224, 226, 153, 161, 167, 172, 176, 177, 179, 209, 216, 217, 227, 229, 230, 129, 132, 133, 134, 136, 146, 154, 156, 160, 163, 164, 169, 170, 173, 178, 181, 185, 186, 187, 189, 190, 196, 198, 228, 232, 233, 1, 135, 137, 138, 139, 140, 141, 143, 147, 149, 150, 151, 152, 155, 157, 158, 165, 166, 168, 174, 175, 180, 182, 183, 188, 191, 197, 231, 239, 9, 142, 144, 145, 148, 159, 171, 206, 215, 225, 236, 237, 199, 207, 234, 235, 192, 193, 200, 201, 202, 205, 210, 213, 218, 219, 238, 240, 242, 243, 255, 203, 204, 211, 212, 214, 221, 222, 223, 241, 244, 245, 246, 247, 248, 250, 251, 252, 253, 254, 2, 3, 4, 5, 6, 7, 8, 11, 12, 14, 15, 16, 17, 18, 19, 20, 21, 23, 24, 25, 26, 27, 28, 29, 30, 31, 127, 220, 249, 10, 13, 22, 256]
def nextN : List Nat := [0, 0, 0, 0, 0, 0, 20, 92, 248, 508, 1016, 2042, 4090, 8184, 16380, 32764, 65534, 131068, 262136, 524272, 1048550, 2097116, 4194258, 8388568, 16777194, 33554412, 67108832, 134217694, 268435426, 536870910, 1073741820, 2147483648]

/-- a byte's length, and its code; at 256 the end's -/
def len (c : Nat) : Nat := lenN.getD c 0
def code (c : Nat) : Nat := codeN.getD c 0
theorem lenN_length : lenN.length = 257 := by decide +kernel
theorem codeN_length : codeN.length = 257 := by decide +kernel
theorem len_all : lenN.all (fun x => 5 ≤ x && x ≤ 30) = true := by decide +kernel
theorem len_bd {c : Nat} (h : c < 257) : 5 ≤ len c ∧ len c ≤ 30 := by
  have hm : len c ∈ lenN := by
    have : c < lenN.length := by rw [lenN_length]; exact h
    simp [len, this]
  have := List.all_eq_true.1 len_all _ hm
  simpa using this
theorem len_end : len 256 = 30 := by decide +kernel
theorem code_end : code 256 = 1073741823 := by decide +kernel

/-- where the numbers of 30 bits begin that begin with a code; how many there are -/
def lo (c : Nat) : Nat := code c * 2 ^ (30 - len c)
def wd (c : Nat) : Nat := 2 ^ (30 - len c)
theorem wd_pos (c : Nat) : 0 < wd c := Nat.pow_pos (by omega)
/-- these codes, in order, take up all numbers of 30 bits from one on; lengths rise -/
def chain : Nat → Nat → List Nat → Bool
  | r, _, [] => r == 1073741824
  | r, l, c :: t => Nat.ble l (len c) && (lo c == r) && chain (r + wd c) (len c) t
theorem chain_ord : chain 0 0 ordN = true := by decide +kernel
theorem ord_all : (List.range 257).all (fun c => ordN.contains c) = true := by decide +kernel
theorem ord_mem {c : Nat} (h : c < 257) : c ∈ ordN := by
  have := List.all_eq_true.1 ord_all c (List.mem_range.2 h)
  simpa using this
theorem ord_lt : ordN.all (fun c => Nat.blt c 257) = true := by decide +kernel
theorem lt_of_ord {c : Nat} (h : c ∈ ordN) : c < 257 := by
  have := List.all_eq_true.1 ord_lt c h
  simpa [Nat.blt_eq] using this
theorem chain_cons {r l c : Nat} {t : List Nat} (h : chain r l (c :: t) = true) : l ≤ len c ∧ lo c = r ∧ chain (r + wd c) (len c) t = true := by
  simp only [chain, Bool.and_eq_true, beq_iff_eq, Nat.ble_eq] at h
  exact ⟨h.1.1, h.1.2, h.2⟩
theorem chain_ge : ∀ {S : List Nat} {r l : Nat}, chain r l S = true → ∀ c ∈ S, r ≤ lo c ∧ l ≤ len c
  | [], _, _, _, c, hc => by simp at hc
  | d :: t, r, l, h, c, hc => by
    obtain ⟨h1, h2, h3⟩ := chain_cons h
    rcases List.mem_cons.1 hc with rfl | hc
    · exact ⟨by omega, h1⟩
    · have := chain_ge h3 c hc
      have := wd_pos d
      omega
theorem chain_cover : ∀ {S : List Nat} {r l : Nat}, chain r l S = true → ∀ v, r ≤ v → v < 1073741824 → ∃ c ∈ S, lo c ≤ v ∧ v < lo c + wd c
  | [], r, _, h, v, h1, h2 => by
    simp only [chain, beq_iff_eq] at h
    omega
  | d :: t, r, l, h, v, h1, h2 => by
    obtain ⟨_, h3, h4⟩ := chain_cons h
    by_cases hv : v < r + wd d
    · exact ⟨d, by simp, by omega, by omega⟩
    · obtain ⟨c, hc, hh⟩ := chain_cover h4 v (by omega) h2
      exact ⟨c, by simp [hc], hh⟩
theorem chain_apart : ∀ {S : List Nat} {r l : Nat}, chain r l S = true → ∀ c ∈ S, ∀ d ∈ S, c = d ∨ (lo c + wd c ≤ lo d ∧ len c ≤ len d) ∨ (lo d + wd d ≤ lo c ∧ len d ≤ len c)
  | [], _, _, _, c, hc, _, _ => by simp at hc
  | e :: t, r, l, h, c, hc, d, hd => by
    obtain ⟨_, h3, h4⟩ := chain_cons h
    rcases List.mem_cons.1 hc with h1 | h1
    · rcases List.mem_cons.1 hd with h2 | h2
      · exact .inl (h1.trans h2.symm)
      · have := chain_ge h4 d h2
        rw [h1]
        exact .inr (.inl ⟨by omega, this.2⟩)
    · rcases List.mem_cons.1 hd with h2 | h2
      · have := chain_ge h4 c h1
        rw [h2]
        exact .inr (.inr ⟨by omega, this.2⟩)
      · exact chain_apart h4 c h1 d h2
theorem apart {c d : Nat} (hc : c < 257) (hd : d < 257) : c = d ∨ (lo c + wd c ≤ lo d ∧ len c ≤ len d) ∨ (lo d + wd d ≤ lo c ∧ len d ≤ len c) := chain_apart chain_ord c (ord_mem hc) d (ord_mem hd)
theorem code_all : (List.range 257).all (fun c => Nat.blt (code c) (2 ^ len c)) = true := by decide +kernel
theorem code_lt {c : Nat} (h : c < 257) : code c < 2 ^ len c := by
  have := List.all_eq_true.1 code_all c (List.mem_range.2 h)
  simpa [Nat.blt_eq] using this

theorem pow_split {m n : Nat} (h : m ≤ n) (h2 : n ≤ 30) : 2 ^ (30 - m) = 2 ^ (n - m) * 2 ^ (30 - n) := by
  rw [← Nat.pow_add]; congr 1; omega
/-- no code begins with another one's -/
theorem begins {c d : Nat} (hc : c < 257) (hd : d < 257) (hi : len c ≤ len d) (hk : code c = code d / 2 ^ (len d - len c)) : c = d := by
  have hd30 := (len_bd hd).2
  have hp : 0 < 2 ^ (len d - len c) := Nat.pow_pos (by omega)
  have hq : 0 < 2 ^ (30 - len d) := Nat.pow_pos (by omega)
  have h1 : code c * 2 ^ (len d - len c) ≤ code d := by rw [hk]; exact Nat.div_mul_le_self _ _
  have h2 : code d < (code c + 1) * 2 ^ (len d - len c) := by
    rw [hk]
    have := Nat.lt_div_mul_add (a := code d) hp
    rw [Nat.add_mul, Nat.one_mul]
    exact this
  have e := pow_split hi hd30
  have h3 : lo c ≤ lo d := by
    unfold lo
    rw [e, ← Nat.mul_assoc]
    exact Nat.mul_le_mul_right _ h1
  have h4 : lo d < lo c + wd c := by
    have := Nat.mul_lt_mul_of_pos_right h2 hq
    unfold lo wd
    rw [e, ← Nat.add_one_mul, ← Nat.mul_assoc]
    exact this
  have := wd_pos d
  rcases apart hc hd with h | h | h
  · exact h
  · omega
  · omega
/-- a longer code is greater, by its first bits -/
theorem longer {c d : Nat} (hc : c < 257) (hd : d < 257) (hi : len c < len d) : code c < code d / 2 ^ (len d - len c) := by
  have hd30 := (len_bd hd).2
  have hp : 0 < 2 ^ (len d - len c) := Nat.pow_pos (by omega)
  have hq : 0 < 2 ^ (30 - len d) := Nat.pow_pos (by omega)
  have e := pow_split (Nat.le_of_lt hi) hd30
  have h1 : lo c + wd c ≤ lo d := by
    rcases apart hc hd with h | h | h
    · subst h; omega
    · exact h.1
    · omega
  unfold lo wd at h1
  rw [e, ← Nat.add_one_mul, ← Nat.mul_assoc] at h1
  have h2 := Nat.le_of_mul_le_mul_right h1 hq
  have := (Nat.le_div_iff_mul_le hp).2 h2
  omega

/-- the byte, or the end, whose code these are -/
def look (n k : Nat) : Option Nat := (List.range 257).find? (fun c => len c == n && code c == k)
theorem look_of {n k c : Nat} (h : look n k = some c) : c < 257 ∧ len c = n ∧ code c = k := by
  have h1 := List.find?_some h
  have h2 := List.mem_of_find?_eq_some h
  simp only [Bool.and_eq_true, beq_iff_eq] at h1
  exact ⟨List.mem_range.1 h2, h1.1, h1.2⟩
theorem code_inj {c d : Nat} (hc : c < 257) (hd : d < 257) (hl : len c = len d) (hk : code c = code d) : c = d :=
  begins hc hd (by omega) (by rw [hl, Nat.sub_self, Nat.pow_zero, Nat.div_one]; exact hk)
theorem look_is {c : Nat} (h : c < 257) : look (len c) (code c) = some c := by
  cases e : look (len c) (code c) with
  | none =>
    have := List.find?_eq_none.1 e c (List.mem_range.2 h)
    simp at this
  | some d =>
    obtain ⟨h1, h2, h3⟩ := look_of e
    rw [code_inj h1 h h2 h3]
theorem look_none {n k : Nat} (h : look n k = none) {c : Nat} (hc : c < 257) : ¬ (len c = n ∧ code c = k) := by
  rintro ⟨rfl, rfl⟩
  rw [look_is hc] at h
  cases h
/-- each number of 30 bits begins with a code -/
theorem complete {v : Nat} (h : v < 1073741824) : ∃ c, c < 257 ∧ code c = v / 2 ^ (30 - len c) := by
  obtain ⟨c, hc, h1, h2⟩ := chain_cover chain_ord v (Nat.zero_le _) h
  refine ⟨c, lt_of_ord hc, ?_⟩
  unfold lo wd at *
  rw [← Nat.add_one_mul] at h2
  have hq : 0 < 2 ^ (30 - len c) := Nat.pow_pos (by omega)
  have := (Nat.div_lt_iff_lt_mul hq).2 h2
  have := (Nat.le_div_iff_mul_le hq).2 h1
  omega

/-- bits that wait: no code begins them -/
def Pend (n k : Nat) : Prop := k < 2 ^ n ∧ ∀ i, i ≤ n → look i (k / 2 ^ (n - i)) = none
theorem look_short {n k : Nat} (h : n < 5) : look n k = none := by
  cases e : look n k with
  | none => rfl
  | some d =>
    obtain ⟨h1, h2, _⟩ := look_of e
    have := (len_bd h1).1
    omega
theorem pend0 : Pend 0 0 := ⟨by decide, fun i hi => look_short (by omega)⟩
theorem half_bit {k b : Nat} (h : b < 2) : (2 * k + b) / 2 = k := by omega
theorem pend_step {n k b : Nat} (h : Pend n k) (hb : b < 2) (hl : look (n + 1) (2 * k + b) = none) : Pend (n + 1) (2 * k + b) := by
  obtain ⟨h1, h2⟩ := h
  refine ⟨by rw [Nat.pow_succ]; omega, fun i hi => ?_⟩
  by_cases he : i = n + 1
  · subst he
    rw [Nat.sub_self, Nat.pow_zero, Nat.div_one]
    exact hl
  · have := h2 i (by omega)
    rw [show n + 1 - i = 1 + (n - i) by omega, Nat.pow_add, ← Nat.div_div_eq_div_mul, Nat.pow_one, half_bit hb]
    exact this
theorem pend_lt {n k : Nat} (h : Pend n k) : n < 30 := by
  obtain ⟨h1, h2⟩ := h
  apply Classical.byContradiction
  intro hn
  have hv : k / 2 ^ (n - 30) < 1073741824 := by
    rw [Nat.div_lt_iff_lt_mul (Nat.pow_pos (by omega))]
    rw [show (1073741824 : Nat) = 2 ^ 30 from rfl, ← Nat.pow_add, show 30 + (n - 30) = n by omega]
    exact h1
  obtain ⟨c, hc, he⟩ := complete hv
  have hc30 := (len_bd hc).2
  have := h2 (len c) (by omega)
  rw [Nat.div_div_eq_div_mul, ← Nat.pow_add, show n - 30 + (30 - len c) = n - len c by omega] at he
  rw [← he, look_is hc] at this
  cases this

end Go.Proofs.YtimggejonppegaaDoor
