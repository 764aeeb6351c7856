import Derived.Test.YtmjlcajcobbcgabRows
import Derived.WalkKit
import Derived.ProofKit
import Derived.OpenShut
import Derived.Below
import Derived.Deep.Slices
namespace Go.Proofs.Ytmjlcajcobbcgab
open Go.ChangeShapes Go.WideShapes Go.ChangeAt Go.RowKit

theorem own : ownKnob Try.prog.godebug = none := by kernel_rfl
theorem laidOut : laidOutB Try.prog = true := by kernel_rfl
theorem cellsInt : Try.prog.cellsOf 3 = 1 := by kernel_rfl
theorem cellsStr : Try.prog.cellsOf 9 = 1 := by kernel_rfl
theorem cellsOp : Try.prog.cellsOf 30 = 5 := by kernel_rfl

theorem list5 {α : Type} : ∀ {l : List α}, l.length = 5 → ∃ a b c d e, l = [a, b, c, d, e]
  | [a, b, c, d, e], _ => ⟨a, b, c, d, e, rfl⟩

/-- A script in memory. -/
def IsScript (w : World) (a : Option Addr) (len cap : Nat) : Prop :=
  len = 0 ∨ ∃ g off, a = some ⟨g, off, none⟩ ∧ g < w.heap.size ∧ len ≤ cap ∧ cap ≤ 9223372036854775807 ∧
    ∀ k, k < len → ∃ (kd W : Int) (s t u : ByteArray), w.cell? ⟨g, off + k * 5, none⟩ = some (.int .i64 kd) ∧ w.cell? ⟨g, off + k * 5 + 1, none⟩ = some (.int .i64 W) ∧ w.cell? ⟨g, off + k * 5 + 2, none⟩ = some (.string s) ∧ w.cell? ⟨g, off + k * 5 + 3, none⟩ = some (.string t) ∧ w.cell? ⟨g, off + k * 5 + 4, none⟩ = some (.string u) ∧ s.size ≤ maxLen ∧ t.size ≤ maxLen ∧ u.size ≤ maxLen

theorem script_open {H : Type} {enc : TypeId × Value → H} {w : World} {base : Nat} {spare : Nat → Bool} {held : Bool} {fuel : Nat} {a : Option Addr} {len cap : Nat} {x : DataW H × List MemPlace}
    (h : DataW.trod enc Try.prog w base spare held fuel 22 [.slice a len cap] = some x) : IsScript w a len cap := by
  rcases Deep.open_slice Try.underlying22 h with ⟨h0, _⟩ | ⟨a', len', cap', m, n, D, Pl, h0, hb, hl, hm, hmm, _, hx⟩
  · simp at h0; exact .inl h0.2.1
  · simp at h0
    obtain ⟨rfl, rfl, rfl⟩ := h0
    have hlm : len ≤ m := by rw [hmm]; split <;> omega
    by_cases hz : len = 0
    · exact .inl hz
    obtain ⟨g, off, spot⟩ := a'
    rw [cellsOp] at hx
    have cell : ∀ i, i < len → ∃ v0 v1 v2 v3 v4, w.cell? ((⟨g, off, spot⟩ : Addr).add (i * 5)) = some v0 ∧ w.cell? ((⟨g, off, spot⟩ : Addr).add (i * 5 + 1)) = some v1 ∧ w.cell? ((⟨g, off, spot⟩ : Addr).add (i * 5 + 2)) = some v2 ∧ w.cell? ((⟨g, off, spot⟩ : Addr).add (i * 5 + 3)) = some v3 ∧ w.cell? ((⟨g, off, spot⟩ : Addr).add (i * 5 + 4)) = some v4 ∧
        ∃ (kd W : Int) (s t u : ByteArray), v0 = .int .i64 kd ∧ v1 = .int .i64 W ∧ v2 = .string s ∧ v3 = .string t ∧ v4 = .string u ∧ s.size ≤ maxLen ∧ t.size ≤ maxLen ∧ u.size ≤ maxLen := by
      intro i hi
      obtain ⟨cs', h1, h2⟩ := hx i (by omega)
      obtain ⟨_, hlen, hcell⟩ := World.cells?_some h1
      obtain ⟨xs, k, _, _, _, hxl, hf⟩ := DataW.trod_struct Try.underlying30 h2
      obtain ⟨v0, v1, v2, v3, v4, rfl⟩ := list5 hlen
      obtain ⟨y0, y1, y2, y3, y4, rfl⟩ := list5 hxl
      have g0 : DataW.trod enc Try.prog w base spare held k 3 (([v0, v1, v2, v3, v4].drop 0).take (Try.prog.cellsOf 3)) = some y0 := hf 0 _ rfl
      rw [cellsInt] at g0
      have g1 : DataW.trod enc Try.prog w base spare held k 3 (([v0, v1, v2, v3, v4].drop 1).take (Try.prog.cellsOf 3)) = some y1 := hf 1 _ rfl
      rw [cellsInt] at g1
      have g2 : DataW.trod enc Try.prog w base spare held k 9 (([v0, v1, v2, v3, v4].drop 2).take (Try.prog.cellsOf 9)) = some y2 := hf 2 _ rfl
      rw [cellsStr] at g2
      have g3 : DataW.trod enc Try.prog w base spare held k 9 (([v0, v1, v2, v3, v4].drop 3).take (Try.prog.cellsOf 9)) = some y3 := hf 3 _ rfl
      rw [cellsStr] at g3
      have g4 : DataW.trod enc Try.prog w base spare held k 9 (([v0, v1, v2, v3, v4].drop 4).take (Try.prog.cellsOf 9)) = some y4 := hf 4 _ rfl
      rw [cellsStr] at g4
      obtain ⟨kd, e0, _⟩ := DataW.trod_int Try.underlying3 g0
      obtain ⟨W, e1, _⟩ := DataW.trod_int Try.underlying3 g1
      obtain ⟨s, e2, _, q2⟩ := DataW.trod_string Try.underlying9 g2
      obtain ⟨t, e3, _, q3⟩ := DataW.trod_string Try.underlying9 g3
      obtain ⟨u, e4, _, q4⟩ := DataW.trod_string Try.underlying9 g4
      simp only [List.drop_zero, List.drop_succ_cons, List.take_succ_cons, List.take_zero, List.cons.injEq, and_true] at e0 e1 e2 e3 e4
      have z0 := hcell 0 (by omega)
      have z1 := hcell 1 (by omega)
      have z2 := hcell 2 (by omega)
      have z3 := hcell 3 (by omega)
      have z4 := hcell 4 (by omega)
      rw [Deep.add_add] at z0 z1 z2 z3 z4
      exact ⟨v0, v1, v2, v3, v4, z0, z1, z2, z3, z4, kd, W, s, t, u, e0, e1, e2, e3, e4, q2, q3, q4⟩
    have hspot : spot = none := by
      obtain ⟨v0, _, _, _, _, c0, _⟩ := cell 0 (by omega)
      simpa [Addr.add] using World.cell?_spot c0
    subst hspot
    have hgl : g < w.heap.size := by
      obtain ⟨v0, _, _, _, _, c0, _⟩ := cell 0 (by omega)
      have := World.block_lt_of_cell? w _ c0
      simpa [Addr.add] using this
    refine .inr ⟨g, off, rfl, hgl, hl, hm, fun k hk => ?_⟩
    obtain ⟨v0, v1, v2, v3, v4, c0, c1, c2, c3, c4, kd, W, s, t, u, rfl, rfl, rfl, rfl, rfl, q2, q3, q4⟩ := cell k hk
    have ad : ∀ j, (⟨g, off, none⟩ : Addr).add j = ⟨g, off + j, none⟩ := fun j => by unfold Addr.add; split <;> simp_all
    rw [ad] at c0 c1 c2 c3 c4
    exact ⟨kd, W, s, t, u, c0, c1, c2, c3, c4, q2, q3, q4⟩
end Go.Proofs.Ytmjlcajcobbcgab
