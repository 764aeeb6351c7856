import Derived.Test.YtmjlcajcobbcgabXo
import Derived.Test.YtmjlcajcobbcgabXv
import Derived.Test.YtmjlcajcobbcgabXu
namespace Go.Proofs.Ytmjlcajcobbcgab
open Go.RowKit

/-- What Refine answers. -/
def RefineOk : Prop := ∀ (b : Nat) (A : List Al.St) (l : List UInt8) (w : World), ASess w b A → Al.Good A → A.length ≤ 24 →
    Calls Try.prog 11 #[.pointer (some ⟨b, 0, none⟩), .string (bs l)] w fun e w' => e = .returned (.tuple #[.string (bs (refineP A l).1), .int .i64 ((refineP A l).2 : Nat)]) ∧ Below w.heap.size w w'
/-- What Why answers: the document's error; with none, a reason. -/
def WhyOk : Prop := ∀ (b : Nat) (A : List Al.St) (l o : List UInt8) (w : World), ASess w b A → Al.Good A → A.length ≤ 24 →
    Calls Try.prog 41 #[.pointer (some ⟨b, 0, none⟩), .string (bs l), .string (bs o)] w fun e w' => ∃ t : List UInt8, e = .returned (.tuple #[.string (bs t), .int .i64 (whyE A l o : Nat)]) ∧ (whyE A l o ≠ 0 → t = []) ∧
      (∀ c d, l = [c] → o = [d] → whyE A l o = 0 → t ≠ [] ∧ t.length ≤ 1000000 ∧ ∃ m Q, ReasonOf A t c.toNat d.toNat m Q) ∧ Below w.heap.size w w'

theorem varN_var {A : List Al.St} {k : Nat} (hk : k < 12) (hn : namedP A k = true) : varN A [varByte k] = (k : Nat) := by
  obtain ⟨h1, h2⟩ := varByte_ok hk
  rw [varN_one, if_pos ⟨h1, by rw [h2]; exact hn⟩, h2]
theorem varN_var_no {A : List Al.St} {k : Nat} (hk : k < 12) (hn : namedP A k = false) : varN A [varByte k] = -1 := by
  obtain ⟨h1, h2⟩ := varByte_ok hk
  rw [varN_one, if_neg (by rw [h2, hn]; simp)]
theorem refine_var {A : List Al.St} {k : Nat} (hk : k < 12) (hn : namedP A k = true) : refineP A [varByte k] = (refineF A k, 0) := by
  unfold refineP
  rw [varN_var hk hn, if_neg (by omega), Int.toNat_natCast]
theorem refine_set (A : List Al.St) (k : Nat) : setOf (Al.leastP A (refineF A k)) k = setOf (Al.leastP A Al.allF) k := by
  have := (refineF_ok A k).2
  unfold exactP at this
  exact beq_iff_eq.1 this
theorem oB_site {o : Nat} (h : o < 12) : Al.oB (siteB o).toNat = true ∧ Al.si (siteB o) = o := by
  have e := siteB_toNat h
  refine ⟨by simp [Al.oB, e]; omega, by unfold Al.si; omega⟩
theorem why_var {A : List Al.St} {k o : Nat} (hk : k < 12) (ho : o < 12) (hn : namedP A k = true) : whyE A [varByte k] [siteB o] = if Al.leastP A Al.allF k o = true then 0 else 4 := by
  obtain ⟨h1, h2⟩ := oB_site ho
  rw [whyE_one, varN_var hk hn, if_neg (by omega), Int.toNat_natCast, h2]
  by_cases e : Al.leastP A Al.allF k o = true
  · rw [if_pos ⟨h1, e⟩, if_pos e]
  · rw [if_neg (fun h => e h.2), if_neg e]
theorem alias_var {A : List Al.St} {k j : Nat} (hk : k < 12) (hj : j < 12) (hn : namedP A k = true) (hm : namedP A j = true) : aliasP A [varByte k] [varByte j] Al.allF = (Al.meetT (Al.leastP A Al.allF) k j, true, 0) := by
  unfold aliasP
  rw [varN_var hk hn, varN_var hj hm, if_neg (by omega), if_neg (by rw [all_fields]; simp), Int.toNat_natCast, Int.toNat_natCast]
  simp
theorem alias_var_no {A : List Al.St} {k j : Nat} (hj : j < 12) (hm : namedP A j = false) : aliasP A [varByte k] [varByte j] Al.allF = (false, false, 5) := by
  unfold aliasP
  rw [varN_var_no hj hm, if_pos (.inr (by decide))]
theorem meet_var (T : Al.Tb) (k j : Nat) : meetP (setOf T k) (setOf T j) = Al.meetT T k j := by
  rw [Bool.eq_iff_iff, meet_set, Al.meet_iff]
theorem text_site (k : Nat) (hk : k < 12) (w : World) : Calls Try.prog 12 #[.int .u8 (65 + (k : Int))] w fun e w' => e = .returned (.string (bs [siteB k])) ∧ Below w.heap.size w w' := by
  have h := textL_any (siteB k) w
  rw [siteB_toNat hk] at h
  exact h
theorem whyE_zero {A : List Al.St} {l o : List UInt8} (h : whyE A l o = 0) : ∃ c d, l = [c] ∧ o = [d] := by
  match o with
  | [] =>
    rw [whyE_len (by simp)] at h
    split at h <;> cases h
  | [d] =>
    rw [whyE_one] at h
    split at h
    · simp at h
    · rename_i hv
      match l, hv with
      | [], hv => exact absurd (show (-1 : Int) < 0 by decide) hv
      | [c], _ => exact ⟨c, d, rfl, rfl⟩
      | _ :: _ :: _, hv => exact absurd (show (-1 : Int) < 0 by decide) hv
  | _ :: _ :: _ =>
    rw [whyE_len (by simp)] at h
    split at h <;> cases h
end Go.Proofs.Ytmjlcajcobbcgab
