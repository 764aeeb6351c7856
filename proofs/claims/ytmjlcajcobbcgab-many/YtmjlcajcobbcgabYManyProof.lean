import Derived.Test.YtmjlcajcobbcgabYOpenW
import Derived.Test.YtmjlcajcobbcgabXx
import Derived.Test.YtmjlcajcobbcgabXzc
import Derived.HandedShaped
namespace Go.Proofs.Ytmjlcajcobbcgab
open Go.ChangeShapes Go.WideShapes Go.ChangeAt Go.RowKit

theorem many_walk (a : Option Addr) (len cap : Nat) (w : World) (h : IsScript w a len cap) (hl : len * 64 ≤ 140737488351232)
    (hn : ∀ g off, a = some ⟨g, off, none⟩ → ∀ k, k < len → ∀ W : Int, w.cell? ⟨g, off + k * 5 + 1, none⟩ = some (.int .i64 W) → -9223372036854775808 ≤ W ∧ W ≤ 9223372036854775807) :
    Calls Try.prog 7 #[.slice a len cap] w fun e w' => e = .returned (.bool true) ∧ Below w.heap.size w w' := by
  rcases h with rfl | ⟨g, off, rfl, hg, _, _, hc⟩
  · exact Many_zero refineOk whyOk a cap w
  · exact Many_some refineOk whyOk g off len cap w hg (by omega) fun k hk => by
      obtain ⟨kd, W, s, t, u, c0, c1, c2, c3, c4, hs⟩ := hc k hk
      exact ⟨kd, W, s, t, u, c0, c1, c2, c3, c4, hs, hn g off rfl k hk W c1⟩

set_option maxRecDepth 100000 in
theorem many_lifted (os : Os) (started : os.Started) (H : Type) (enc : TypeId × Value → H) :
    ReturnsInHanded {} Try.checked os 7 .any (Rows.manySpec.pre6 enc Try.prog Try.f7 Rows.manyRow.domain false) (Rows.manySpec.post enc Try.prog Try.f7 false true false false) := by
  refine returnsInHanded_of_change_shaped (C := Try.checked) own started (by kernel_rfl) Try.func7
    (ChangeSpec.witness6 (enc := enc) (C := Try.checked) false ⟨#[], #[.slice none 0 0], []⟩ 8 (by kernel_rfl) (by kernel_rfl) (by kernel_rfl) (by kernel_rfl)) ?_
  intro W base args ds gs before hval0 hW _ hwt0 _ _
  have hval : ∀ (j : Nat) t v, Try.f7.params[j]? = some t → args[j]? = some v → Value.okWide Try.prog W .any base t v := hval0
  have hW' := hW
  obtain ⟨p, q, hA0, hV, rfl, hfz, hnd⟩ := hW
  have hA : DataW.TrodAll enc Try.prog W 0 (fun _ => true) true Try.f7.params.toList args.toList ds p := hA0
  rw [Try.params7] at hA hval
  obtain ⟨v0, d0, rfl, rfl, h0⟩ := trodAll_one hA
  obtain ⟨rfl, rfl⟩ := trodVars_none hV
  obtain ⟨a0, len0, cap0, rfl⟩ := okWide_slice Try.underlying22 (hval 0 22 v0 rfl rfl)
  have k0 := h0
  have lt0 : ∀ x ∈ p, x.block < W.heap.size := by obtain ⟨m, hm⟩ := k0; exact DataW.trod_lt m _ _ _ hm
  have hsc : IsScript W a0 len0 cap0 := by
    obtain ⟨fuel, hf⟩ := h0
    exact script_open (by simpa [Value.cells] using hf)
  have hwd : len0 * 64 ≤ 140737488351232 ∧ ∀ g off, a0 = some ⟨g, off, none⟩ → ∀ k, k < len0 → ∀ N : Int, W.cell? ⟨g, off + k * 5 + 1, none⟩ = some (.int .i64 N) → -9223372036854775808 ≤ N ∧ N ≤ 9223372036854775807 := by
    obtain ⟨fuel, hf⟩ := k0
    have hwt : (DataW.weightsEach Try.prog (Try.f7.params.toList ++ []) ([d0] ++ [])).all (· ≤ reachBytes) = true := hwt0
    rw [Try.params7] at hwt
    exact script_wide (x := (d0, p)) (by simpa [Value.cells] using hf) hwt
  clear hA0 hval0 hwt0
  simp only [List.append_nil] at hW'
  refine (many_walk a0 len0 cap0 W hsc hwd.1 hwd.2).mono fun e W' ⟨he, bel⟩ => ?_
  subst he
  exact ⟨_, rfl, _, _, _, [], p, [], hW', trodAll_mk1 (shut_bool Try.underlying4 _), trodAll_mk1 (Below.trod laidOut (by kernel_rfl) (of_decide_eq_true (by kernel_rfl)) k0 bel lt0), rfl, bel.frame _, fun h => by cases h⟩

theorem many_holds : Rows.ManySaid :=
  OpenClaim.holds_of_wide 7 Try.f7 rfl rfl rfl rfl rfl rfl rfl ⟨rfl, rfl, rfl, rfl, rfl⟩ rfl rfl rfl rfl rfl (by kernel_rfl) Try.func7 (by kernel_rfl)
    (of_decide_eq_true (by kernel_rfl)) (by unfold Func.isWrapper; first | (rw [if_pos (by decide +kernel)]; kernel_rfl) | (rw [if_neg (by decide +kernel)]; exact ⟨rfl, rfl⟩))
    (fun os started H enc _ => many_lifted os started H enc)
#print axioms many_holds
end Go.Proofs.Ytmjlcajcobbcgab
