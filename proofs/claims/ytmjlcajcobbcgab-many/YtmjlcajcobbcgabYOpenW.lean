import Derived.Test.YtmjlcajcobbcgabYOpen
import Derived.SizedLaws
namespace Go.Proofs.Ytmjlcajcobbcgab
open Go.ChangeShapes Go.WideShapes Go.ChangeAt Go.RowKit

theorem bytesOp : Try.prog.bytesOf 30 = 64 := by kernel_rfl

/-- How long a script is at most, and how large its second numbers are. -/
theorem script_wide {H : Type} {enc : TypeId × Value → H} {w : World} {base : Nat} {spare : Nat → Bool} {held : Bool} {fuel : Nat} {a : Option Addr} {len cap : Nat} {x : DataW H × List MemPlace} {ts : List TypeId} {ds : List (DataW H)}
    (h : DataW.trod enc Try.prog w base spare held fuel 22 [.slice a len cap] = some x) (hw : (DataW.weightsEach Try.prog (22 :: ts) (x.1 :: ds)).all (· ≤ reachBytes) = true) :
    len * 64 ≤ 140737488351232 ∧ ∀ g off, a = some ⟨g, off, none⟩ → ∀ k, k < len → ∀ W : Int, w.cell? ⟨g, off + k * 5 + 1, none⟩ = some (.int .i64 W) → -9223372036854775808 ≤ W ∧ W ≤ 9223372036854775807 := by
  rcases Deep.open_slice Try.underlying22 h with ⟨h0, _⟩ | ⟨a', len', cap', m, n, D, Pl, h0, hb, hl, hm, hmm, rfl, hx⟩
  · simp at h0
    obtain ⟨_, rfl, _⟩ := h0
    exact ⟨by omega, fun _ _ _ k hk => by omega⟩
  · simp at h0
    obtain ⟨rfl, rfl, rfl⟩ := h0
    have hlm : len ≤ m := by rw [hmm]; split <;> omega
    have hs := sized_slice hw (j := 0) (t := 22) (e := 30) rfl rfl Try.underlying22
    rw [bytesOp] at hs
    simp only [List.length_map, List.length_range] at hs
    have hr : reachBytes = 140737488351232 := by decide
    refine ⟨by omega, fun g off e k hk W hW => ?_⟩
    cases e
    rw [cellsOp] at hx
    obtain ⟨cs', h1, h2⟩ := hx k (by omega)
    obtain ⟨_, hlen, hcell⟩ := World.cells?_some h1
    obtain ⟨xs, q, _, _, _, hxl, hf⟩ := DataW.trod_struct Try.underlying30 h2
    obtain ⟨v0, v1, v2, v3, v4, rfl⟩ := list5 hlen
    obtain ⟨y0, y1, y2, y3, y4, rfl⟩ := list5 hxl
    have g1 : DataW.trod enc Try.prog w base spare held q 3 (([v0, v1, v2, v3, v4].drop 1).take (Try.prog.cellsOf 3)) = some y1 := hf 1 _ rfl
    rw [cellsInt] at g1
    obtain ⟨W', e1, _, hwf⟩ := DataW.trod_int Try.underlying3 g1
    simp only [List.drop_zero, List.drop_succ_cons, List.take_succ_cons, List.take_zero, List.cons.injEq, and_true] at e1
    have z1 := hcell 1 (by omega)
    have ad : ∀ j, (⟨g, off, none⟩ : Addr).add j = ⟨g, off + j, none⟩ := fun j => by unfold Addr.add; split <;> simp_all
    rw [Deep.add_add, ad, show off + (k * 5 + 1) = off + k * 5 + 1 from by omega, hW] at z1
    simp only [List.getElem?_cons_succ, List.getElem?_cons_zero, Option.some.injEq] at z1
    rw [e1] at z1
    cases z1
    simp only [Lit.wf, Bool.and_eq_true, decide_eq_true_eq] at hwf
    have m1 : IntKind.i64.min = -9223372036854775808 := by decide
    have m2 : IntKind.i64.max = 9223372036854775807 := by decide
    rw [m1, m2] at hwf
    exact hwf
end Go.Proofs.Ytmjlcajcobbcgab
