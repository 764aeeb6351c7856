import Derived.Test.YtljafkdaljkanaaRefG
import Derived.OneCell
namespace Go.Proofs.Ytljafkdaljkanaa
open Go.RowKit

/-- What a Load, an Add, a Drop makes of the program's statements; the error; the place. -/
def chLoad (l : List UInt8) (A : List Al.St) : List Al.St := if (Al.loadP l).1 = 0 then (Al.loadP l).2.2 else A
def theSt (l : List UInt8) : Al.St := Al.mkSt (Al.kindOf l) l
def addE (l : List UInt8) (A : List Al.St) : Nat × Nat := if (Al.oneP l).1 = 0 then (if 24 < (Al.withP A (theSt l)).length then (3, 0) else (0, 0)) else Al.oneP l
def chAdd (l : List UInt8) (A : List Al.St) : List Al.St := if (addE l A).1 = 0 then Al.withP A (theSt l) else A
def dropE (l : List UInt8) (A : List Al.St) : Nat × Nat := if (Al.oneP l).1 = 0 then (if Al.has (A.map Al.txt) (Al.txt (theSt l)) = false then (4, 0) else (0, 0)) else Al.oneP l
def chDrop (l : List UInt8) (A : List Al.St) : List Al.St := if (dropE l A).1 = 0 then Al.dropP A (theSt l) else A

/-- The document's session in memory. -/
structure RSess (w : World) (b : Nat) (A : List Al.St) : Prop where
  ex : ∃ v, w.heap[b]? = some (.cells #[v] 31 (0, 0)) ∧ RdS w v (A.map Al.txt)

theorem grown_of_below {w w' : World} (h : Below w.heap.size w w') (r : Option Nat) : w.grownBy w' r := ⟨h.os, h.tape, h.output, h.size, fun k hk _ => h.block k hk⟩
theorem grown_set {w w' : World} {b : Nat} (h : Below w.heap.size w w') (v : Value) : w.grownBy (w'.setCell ⟨b, 0, none⟩ v) (some b) :=
  ⟨h.os, h.tape, h.output, by simpa [World.setCell] using h.size, fun k hk hne => by rw [Below.heap_setCell _ _ _ _ (by simpa using hne)]; exact h.block k hk⟩
theorem grown_trans {a b c : World} {r : Option Nat} (h : a.grownBy b r) (k : b.grownBy c r) : a.grownBy c r :=
  ⟨k.os.trans h.os, k.tape.trans h.tape, k.output.trans h.output, Nat.le_trans h.size k.size, fun i hi hne => (k.block i (Nat.lt_of_lt_of_le hi h.size) hne).trans (h.block i hi hne)⟩

theorem RSess.below {w w' : World} {b : Nat} {A : List Al.St} (h : RSess w b A) (hb : Below w.heap.size w w') : RSess w' b A := by
  obtain ⟨v, h1, h2⟩ := h.ex
  exact ⟨v, by rw [hb.block b (lt_of_block h1)]; exact h1, h2.below hb⟩
theorem RSess.set {w w' : World} {b : Nat} {v v' : Value} {A : List Al.St} (h : w.heap[b]? = some (.cells #[v] 31 (0, 0))) (hb : Below w.heap.size w w') (ho : w'.ownsRow w.heap.size 9 1 v' (A.map Al.txt).length ((A.map Al.txt).map sv)) :
    RSess (w'.setCell ⟨b, 0, none⟩ v') b A := by
  have h1 := lt_of_block h
  exact ⟨v', one_setCell (by rw [hb.block b h1]; exact h), ownsRow_zero (ownsRow_setCell_below ho h1 v')⟩

theorem ownsRow_slice {w : World} {base : Nat} {e : TypeId} {size : Nat} {v : Value} {n : Nat} {xs : List Value} (h : w.ownsRow base e size v n xs) : ∃ ao c, v = .slice ao n c := by
  rcases h.2 with ⟨rfl, rfl⟩ | ⟨g, cap, cur, rfl, _⟩
  · exact ⟨_, _, rfl⟩
  · exact ⟨_, _, rfl⟩

set_option maxHeartbeats 400000 in
theorem rLoad_any (b : Nat) (A : List Al.St) (s : ByteArray) (w : World) (hs : s.size ≤ maxLen) (hS : RSess w b A) :
    Calls Try.prog 46 #[.pointer (some ⟨b, 0, none⟩), .string s] w fun e w' => e = .returned (.tuple #[.int .i64 ((Al.loadP s.data.toList).1 : Nat), .int .i64 ((Al.loadP s.data.toList).2.1 : Nat)]) ∧
      RSess w' b (chLoad s.data.toList A) ∧ w.grownBy w' (some b) := by
  obtain ⟨v, hv, hr⟩ := hS.ex
  have HCH : Hid (chLoad s.data.toList A = if (Al.loadP s.data.toList).1 = 0 then (Al.loadP s.data.toList).2.2 else A) := rfl
  have HRD := Read_any s w hs
  generalize Al.loadP s.data.toList = r at *
  obtain ⟨er, pl, A'⟩ := r
  simp only at HRD HCH
  by_cases he : er = 0
  · subst he
    have HRD2 := hid HRD
    clear HRD
    go_enter Try.func46, Try.ntmps46
    go_wp2_with fail
    refine HRD2.out.mono ?_
    rintro e w1 ⟨v1, rfl, hown, hbel⟩
    obtain ⟨ao, c1, rfl⟩ := ownsRow_slice hown
    have hv1 : w1.heap[b]? = some (.cells #[v] 31 (0, 0)) := by rw [hbel.block b (lt_of_block hv)]; exact hv
    have hc := cell_of_one hv1
    have hf := free_of_one hv1
    have R1 := hid (And.intro (RSess.set hv hbel hown) (grown_set (b := b) hbel (.slice ao (A'.map Al.txt).length c1)))
    simp only [List.length_map] at R1
    clear hown hbel hv1
    go_wp2_with fail
    go_ret2
    refine ⟨rfl, ?_, R1.out.2⟩
    simp only [HCH.out, if_true]; exact R1.out.1
  · have HRD2 := hid HRD
    clear HRD
    go_enter Try.func46, Try.ntmps46
    go_wp2_with fail
    refine HRD2.out.mono ?_
    rintro e w1 ⟨v1, rfl, hown, hbel⟩
    have hb : ((er : Int) == 0) = false := beq_eq_false_iff_ne.2 (by omega)
    go_wp2_with fail
    go_ret2
    refine ⟨rfl, ?_, grown_of_below hbel _⟩
    rw [HCH.out, if_neg he]; exact hS.below hbel

set_option maxHeartbeats 400000 in
theorem rAdd_any (b : Nat) (A : List Al.St) (s : ByteArray) (w : World) (hs : s.size ≤ maxLen) (hS : RSess w b A) (hA : Al.Good A) (hl : A.length ≤ 24) :
    Calls Try.prog 47 #[.pointer (some ⟨b, 0, none⟩), .string s] w fun e w' => e = .returned (.tuple #[.int .i64 ((addE s.data.toList A).1 : Nat), .int .i64 ((addE s.data.toList A).2 : Nat)]) ∧
      RSess w' b (chAdd s.data.toList A) ∧ w.grownBy w' (some b) := by
  obtain ⟨v, hv, hr⟩ := hS.ex
  have hcv := cell_of_one hv
  have HONE := hid (one_any s w hs)
  by_cases he : (Al.oneP s.data.toList).1 = 0
  · obtain ⟨hk, hwf, htx, hle⟩ := Al.one_yes he
    have hp := Al.one_zero he
    have hrw := Al.refWith_eq (A.map Al.txt) (Al.txt (theSt s.data.toList)) hA.2
    rw [← Al.withP_txt] at hrw
    have HW0 := With_any (A.map Al.txt) (Al.txt (theSt s.data.toList)) v w hr (by simp; omega) (by rw [theSt, htx]; omega) (map_bound hA)
    rw [hrw] at HW0
    have htx2 : bs (Al.txt (theSt s.data.toList)) = s := by rw [theSt, htx]; rfl
    rw [htx2] at HW0
    have HW := hid HW0
    clear HW0 htx2
    rw [hp] at HONE
    by_cases hf : 24 < (Al.withP A (theSt s.data.toList)).length
    · have HE : Hid (addE s.data.toList A = (3, 0)) := by rw [Hid, addE, if_pos he, if_pos hf]
      have HC : Hid (chAdd s.data.toList A = A) := by rw [Hid, chAdd, HE.out, if_neg (by simp)]
      generalize Al.withP A (theSt s.data.toList) = A' at *
      clear he hrw hp htx hwf hk
      go_enter Try.func47, Try.ntmps47
      go_wp2_with fail
      refine HONE.out.mono ?_
      rintro e w1 ⟨rfl, rfl⟩
      go_wp2_with fail
      refine HW.out.mono ?_
      rintro e w2 ⟨v2, rfl, hown, hbel⟩
      obtain ⟨ao, c1, rfl⟩ := ownsRow_slice hown
      have hlm : ((A'.map Al.txt).length : Int) = A'.length := by simp
      go_wp2_with fail
      go_ret2
      refine ⟨by rw [HE.out]; rfl, ?_, grown_of_below hbel _⟩
      rw [HC.out]; exact hS.below hbel
    · have HE : Hid (addE s.data.toList A = (0, 0)) := by rw [Hid, addE, if_pos he, if_neg hf]
      have HC : Hid (chAdd s.data.toList A = Al.withP A (theSt s.data.toList)) := by rw [Hid, chAdd, HE.out, if_pos rfl]
      generalize Al.withP A (theSt s.data.toList) = A' at *
      clear he hrw hp htx hwf hk
      go_enter Try.func47, Try.ntmps47
      go_wp2_with fail
      refine HONE.out.mono ?_
      rintro e w1 ⟨rfl, rfl⟩
      go_wp2_with fail
      refine HW.out.mono ?_
      rintro e w2 ⟨v2, rfl, hown, hbel⟩
      obtain ⟨ao, c1, rfl⟩ := ownsRow_slice hown
      have hlm : ((A'.map Al.txt).length : Int) = A'.length := by simp
      have hv2 : w2.heap[b]? = some (.cells #[v] 31 (0, 0)) := by rw [hbel.block b (lt_of_block hv)]; exact hv
      have hc2 := cell_of_one hv2
      have hf2 := free_of_one hv2
      have R1 := hid (And.intro (RSess.set hv hbel hown) (grown_set (b := b) hbel (.slice ao (A'.map Al.txt).length c1)))
      simp only [List.length_map] at R1
      clear hown hbel hv2
      go_wp2_with fail
      go_ret2
      refine ⟨by rw [HE.out]; rfl, ?_, R1.out.2⟩
      rw [HC.out]; exact R1.out.1
  · have HE : Hid (addE s.data.toList A = Al.oneP s.data.toList) := by rw [Hid, addE, if_neg he]
    have HC : Hid (chAdd s.data.toList A = A) := by rw [Hid, chAdd, HE.out, if_neg he]
    generalize Al.oneP s.data.toList = r at *
    obtain ⟨er, pl⟩ := r
    simp only at he
    have hb : ((er : Int) != 0) = true := by simpa using he
    go_enter Try.func47, Try.ntmps47
    go_wp2_with fail
    refine HONE.out.mono ?_
    rintro e w1 ⟨rfl, rfl⟩
    go_wp2_with fail
    go_ret2
    refine ⟨by rw [HE.out]; rfl, ?_, grown_of_below (Below.refl _ _) _⟩
    rw [HC.out]; exact hS

set_option maxHeartbeats 400000 in
theorem rDrop_any (b : Nat) (A : List Al.St) (s : ByteArray) (w : World) (hs : s.size ≤ maxLen) (hS : RSess w b A) (hA : Al.Good A) (hl : A.length ≤ 24) :
    Calls Try.prog 48 #[.pointer (some ⟨b, 0, none⟩), .string s] w fun e w' => e = .returned (.tuple #[.int .i64 ((dropE s.data.toList A).1 : Nat), .int .i64 ((dropE s.data.toList A).2 : Nat)]) ∧
      RSess w' b (chDrop s.data.toList A) ∧ w.grownBy w' (some b) := by
  obtain ⟨v, hv, hr⟩ := hS.ex
  have hcv := cell_of_one hv
  have hfv := free_of_one hv
  have HONE := hid (one_any s w hs)
  by_cases he : (Al.oneP s.data.toList).1 = 0
  · obtain ⟨hk, hwf, htx, hle⟩ := Al.one_yes he
    have hp := Al.one_zero he
    have htx2 : bs (Al.txt (theSt s.data.toList)) = s := by rw [theSt, htx]; rfl
    have HH0 := Has_any (A.map Al.txt) (Al.txt (theSt s.data.toList)) v w hr
    have HW0 := Without_any (A.map Al.txt) (Al.txt (theSt s.data.toList)) v w hr (by simp; omega)
    have hwf2 : Al.Wf (theSt s.data.toList) := hwf
    rw [← Al.dropP_txt hA.1 hwf2] at HW0
    clear hwf2
    rw [htx2] at HH0 HW0
    have HW : Hid (Calls Try.prog 80 #[v, .string s] w fun e w' => ∃ v, e = .returned v ∧ w'.ownsRow w.heap.size 9 1 v ((Al.dropP A (theSt s.data.toList)).map Al.txt).length (((Al.dropP A (theSt s.data.toList)).map Al.txt).map sv) ∧ Below w.heap.size w w') := HW0
    rw [hp] at HONE
    cases hf : Al.has (A.map Al.txt) (Al.txt (theSt s.data.toList)) with
    | false =>
      have HE : Hid (dropE s.data.toList A = (4, 0)) := by rw [Hid, dropE, if_pos he, if_pos hf]
      have HC : Hid (chDrop s.data.toList A = A) := by rw [Hid, chDrop, HE.out, if_neg (by simp)]
      rw [hf] at HH0
      have HH := hid HH0
      clear he hp htx hwf hk HH0 HW0 htx2 hf
      go_enter Try.func48, Try.ntmps48
      go_wp2_with fail
      refine HONE.out.mono ?_
      rintro e w1 ⟨rfl, rfl⟩
      go_wp2_with fail
      refine HH.out.mono ?_
      rintro e w2 ⟨rfl, rfl⟩
      go_wp2_with fail
      go_ret2
      refine ⟨by rw [HE.out]; rfl, ?_, grown_of_below (Below.refl _ _) _⟩
      rw [HC.out]; exact hS
    | true =>
      have HE : Hid (dropE s.data.toList A = (0, 0)) := by rw [Hid, dropE, if_pos he, if_neg (by rw [hf]; simp)]
      have HC : Hid (chDrop s.data.toList A = Al.dropP A (theSt s.data.toList)) := by rw [Hid, chDrop, HE.out, if_pos rfl]
      rw [hf] at HH0
      have HH := hid HH0
      generalize Al.dropP A (theSt s.data.toList) = A' at *
      clear he hp htx hwf hk HH0 HW0 htx2 hf
      go_enter Try.func48, Try.ntmps48
      go_wp2_with fail
      refine HONE.out.mono ?_
      rintro e w1 ⟨rfl, rfl⟩
      go_wp2_with fail
      refine HH.out.mono ?_
      rintro e w2 ⟨rfl, rfl⟩
      go_wp2_with fail
      refine HW.out.mono ?_
      rintro e w3 ⟨v2, rfl, hown, hbel⟩
      obtain ⟨ao, c1, rfl⟩ := ownsRow_slice hown
      have hv2 : w3.heap[b]? = some (.cells #[v] 31 (0, 0)) := by rw [hbel.block b (lt_of_block hv)]; exact hv
      have hc2 := cell_of_one hv2
      have hf2 := free_of_one hv2
      have R1 := hid (And.intro (RSess.set hv hbel hown) (grown_set (b := b) hbel (.slice ao (A'.map Al.txt).length c1)))
      simp only [List.length_map] at R1
      clear hown hbel hv2
      go_wp2_with fail
      go_ret2
      refine ⟨by rw [HE.out]; rfl, ?_, R1.out.2⟩
      rw [HC.out]; exact R1.out.1
  · have HE : Hid (dropE s.data.toList A = Al.oneP s.data.toList) := by rw [Hid, dropE, if_neg he]
    have HC : Hid (chDrop s.data.toList A = A) := by rw [Hid, chDrop, HE.out, if_neg he]
    generalize Al.oneP s.data.toList = r at *
    obtain ⟨er, pl⟩ := r
    simp only at he
    have hb : ((er : Int) != 0) = true := by simpa using he
    go_enter Try.func48, Try.ntmps48
    go_wp2_with fail
    refine HONE.out.mono ?_
    rintro e w1 ⟨rfl, rfl⟩
    go_wp2_with fail
    go_ret2
    refine ⟨by rw [HE.out]; rfl, ?_, grown_of_below (Below.refl _ _) _⟩
    rw [HC.out]; exact hS
end Go.Proofs.Ytljafkdaljkanaa
