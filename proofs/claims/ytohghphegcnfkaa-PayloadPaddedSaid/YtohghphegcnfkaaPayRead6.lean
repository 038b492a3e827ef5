
/-
  Layer 11, the program's own: what frames say, kind by kind (written by wip/tools/gen11r.py): push.
-/
import Derived.Test.YtohghphegcnfkaaPayRead1
namespace Go.Proofs.Ytohghphegcnfkaa
set_option maxRecDepth 20000
open Go.RowKit

set_option maxHeartbeats 4000000 in
theorem push_any (v : Value) (f : Fr) (w : World) (h : FrV w v f) (_ : 0 ≤ f.flags) (_ : f.flags ≤ 255) (_ : f.pay.length ≤ 100000000) :
    Calls Try.prog 19 #[v] w fun e w' => AnsW w' e (wrongP 1 0) ∧ Below w.heap.size w w' := by
  obtain ⟨pv, rfl, hp⟩ := h
  obtain ⟨a, cap, rfl, hcp, hcm, _⟩ := id hp
  unfold maxLen at hcm
  obtain ⟨N, hN⟩ : ∃ N, N = f.pay.length := ⟨_, rfl⟩
  rw [← hN] at hp hcp ⊢
  have HN := Lib.hid hN
  have HS := Lib.hid (Spk11.new w f (.slice a N cap) hp)
  have HP := Lib.hid hp
  clear hp hN
  have c0 := HS.out.box.c0
  have c1 := HS.out.box.c1
  have c2 := HS.out.box.c2
  have c3 := HS.out.box.c3
  have hsz := HS.out.box.lt
  unfold ptA faA at HS c0 c1 c2 c3 hsz
  go_enter Try.func19, Try.ntmps19
  go_wp2_with fail
  refine (broken_any 1 _).mono ?_
  rintro e w9 ⟨⟨qv, rfl, hq⟩, hb9⟩
  have HO := Lib.hid (HS.out.out.grown hb9)
  clear hb9 c0 c1 c2 c3 hsz
  go_wp2_with (first | (refine store_pt11 rfl (.tmp 2) (.tmp 6) rfl w (w.heap.size + 1) _ _ rfl rfl hq HO.out ?_; intro W hP hF hp hb) | (refine store_fa11 rfl (.tmp 3) (.tmp 7) rfl w (w.heap.size + 1) _ _ 1 0 (Nat.le_succ _) rfl rfl hp hP hF hb ?_; intro W2 hP2 hF2 hp2 hb2))
  refine bodyPost_ret (ans_results rfl _ _ (w.heap.size + 1) _ 1 0 rfl rfl hP2 hF2) rfl ?_
  exact ⟨⟨_, rfl, hp2⟩, hb2⟩
end Go.Proofs.Ytohghphegcnfkaa
