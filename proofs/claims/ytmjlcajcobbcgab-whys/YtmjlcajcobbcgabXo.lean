import Derived.Test.YtmjlcajcobbcgabXn
namespace Go.Proofs.Ytmjlcajcobbcgab
open Go.RowKit

theorem named_x {A : List Al.St} {st : Al.St} (hA : ∀ s ∈ A, Al.Wf s) (hst : st ∈ A) (hc : Al.vB st.2.1.toNat = true) : namedP A (Al.vi st.2.1) = true := by
  rw [named_eq hA hc, List.any_eq_true]; exact ⟨st, hst, by simp⟩
theorem named_y {A : List Al.St} {st : Al.St} (hA : ∀ s ∈ A, Al.Wf s) (hst : st ∈ A) (hc : Al.vB st.2.2.1.toNat = true) : namedP A (Al.vi st.2.2.1) = true := by
  rw [named_eq hA hc, List.any_eq_true]; exact ⟨st, hst, by simp⟩
theorem points_one {A : List Al.St} {c : UInt8} {f : List UInt8} (hc : Al.vB c.toNat = true) (hn : namedP A (Al.vi c) = true) (hf : fieldOk f = true) :
    pointsP A [c] f = (setOf (Al.leastP A f) (Al.vi c), setOf (Al.leastP A f) (Al.vi c) == setOf (Al.leastP A Al.allF) (Al.vi c), 0) := by
  have hv : varN A [c] = (Al.vi c : Nat) := by rw [varN_one, if_pos ⟨hc, hn⟩]
  unfold pointsP
  rw [hv, if_neg (by omega), if_neg (by rw [hf]; simp), Int.toNat_natCast]
theorem points_none {A : List Al.St} {c : UInt8} {f : List UInt8} (hn : ¬ (Al.vB c.toNat = true ∧ namedP A (Al.vi c) = true)) : pointsP A [c] f = ([], false, 5) := by
  have hv : varN A [c] = -1 := by rw [varN_one, if_neg hn]
  unfold pointsP
  rw [hv, if_pos (by decide)]
/-- set of a variable that is named. -/
theorem set_named (b : Nat) (A : List Al.St) (c : UInt8) (f : List UInt8) (w : World) (hS : ASess w b A) (hA : Al.Good A) (hsm : A.length ≤ 24) (hf : fieldOk f = true) (hc : Al.vB c.toNat = true) (hn : namedP A (Al.vi c) = true) :
    Calls Try.prog 18 #[.pointer (some ⟨b, 0, none⟩), .int .u8 (c.toNat : Nat), .string (bs f)] w fun e w' => e = .returned (.tuple #[.string (bs (setOf (Al.leastP A f) (Al.vi c))), .bool true]) ∧ Below w.heap.size w w' := by
  have h := setL_any b A c f w hS hA hsm (Nat.le_trans (fieldOk_len hf) (by decide))
  rw [points_one hc hn hf] at h
  exact h

theorem Below.drewN {B : Nat} {w w' : World} (h : Below B w w') (n : Nat) : Below B w (w'.drewN n) := ⟨h.os, h.tape, h.output, h.size, h.block⟩
theorem least_obeys {A : List Al.St} (hA : ∀ s ∈ A, Al.Wf s) (f : List UInt8) : Al.Obeys A f (Al.leastP A f) := (Al.leastP_is (Al.varsOk_of_wf hA) f).1
theorem slice_one (l : List UInt8) (c : UInt8) (h : (l.drop 3).take 1 = [c]) : (bs l).extract 3 4 = bs [c] := by
  rw [extract_bs]
  show bs ((l.drop 3).take 1) = bs [c]
  rw [h]

/-- What Narrower asks of a variable's three sets. -/
theorem text_var (k : Nat) (hk : k < 12) (w : World) : Calls Try.prog 12 #[.int .u8 (97 + (k : Int))] w fun e w' => e = .returned (.string (bs [varByte k])) ∧ Below w.heap.size w w' := by
  have h := textL_any (varByte k) w
  rw [varByte_toNat hk] at h
  exact h
theorem set_var (b : Nat) (A : List Al.St) (k : Nat) (f : List UInt8) (w : World) (hk : k < 12) (hS : ASess w b A) (hA : Al.Good A) (hsm : A.length ≤ 24) (hf : f.length ≤ 9223372036854775807) :
    Calls Try.prog 18 #[.pointer (some ⟨b, 0, none⟩), .int .u8 (97 + (k : Int)), .string (bs f)] w fun e w' => e = .returned (.tuple #[.string (bs (pointsP A [varByte k] f).1), .bool (((pointsP A [varByte k] f).2.2 : Int) == 0)]) ∧ Below w.heap.size w w' := by
  have h := setL_any b A (varByte k) f w hS hA hsm hf
  rw [varByte_toNat hk] at h
  exact h
theorem points_var {A : List Al.St} {k : Nat} {f : List UInt8} (hk : k < 12) (hn : namedP A k = true) (hf : fieldOk f = true) :
    pointsP A [varByte k] f = (setOf (Al.leastP A f) k, setOf (Al.leastP A f) k == setOf (Al.leastP A Al.allF) k, 0) := by
  obtain ⟨h1, h2⟩ := varByte_ok hk
  rw [points_one h1 (by rw [h2]; exact hn) hf, h2]
theorem points_var_no {A : List Al.St} {k : Nat} {f : List UInt8} (hk : k < 12) (hn : namedP A k = false) : pointsP A [varByte k] f = ([], false, 5) := by
  obtain ⟨h1, h2⟩ := varByte_ok hk
  exact points_none (by rw [h2, hn]; simp)
theorem all_subset {f : List UInt8} (c : UInt8) (hc : Al.fB c.toNat = true) (_h : Al.told f c = true) : Al.told Al.allF c = true := all_told hc

end Go.Proofs.Ytmjlcajcobbcgab
