import Derived.Test.YtmjlcajcobbcgaaRows
import Derived.Test.YtmjlcajcobbcgaaXa
import Derived.WalkKit
import Derived.WalkSpells
import Derived.WalkLawsBesides
import Derived.Deep.QuietTactic
import Derived.BigQuiet
namespace Go.Proofs.Ytmjlcajcobbcgaa
open Go.RowKit

theorem drew_more {w wr : World} {n : Nat} (h : Hid (wr = w.drewN n)) (m : Nat) : ∃ q, wr.drewN m = w.drewN q := ⟨n + m, by rw [h.out]; simp⟩
theorem ret_int {k : IntKind} {a b : Int} (h : a = b) : Ending.returned (.int k a) = .returned (.int k b) := by rw [h]

/-- Var, Site, Field: at least 0 just if the byte is one. -/
def inI (c lo n : Int) : Int := if c < lo ∨ n ≤ c - lo then -1 else c - lo

set_option maxHeartbeats 400000 in
theorem in_any (c lo n : Int) (w : World) (h0 : 0 ≤ c) (h1 : c ≤ 255) (h2 : 0 ≤ lo) (h3 : lo ≤ 255) :
    Calls Try.prog 91 #[.int .u8 c, .int .u8 lo, .int .i64 n] w fun e w' => e = .returned (.int .i64 (inI c lo n)) ∧ w' = w := by
  by_cases a : c < lo
  · go_enter Try.func91, Try.ntmps91
    go_wp2
    go_ret
    exact ⟨ret_int (by simp [inI, a]), rfl⟩
  · by_cases b : n ≤ c - lo
    · go_enter Try.func91, Try.ntmps91
      go_wp2
      go_ret
      exact ⟨ret_int (by simp [inI, b]), rfl⟩
    · go_enter Try.func91, Try.ntmps91
      go_wp2
      go_ret
      exact ⟨ret_int (by unfold inI; rw [if_neg (by omega)]), rfl⟩

def varI (c : Int) : Int := inI c 97 12
def siteI (c : Int) : Int := inI c 65 12
def fieldI (c : Int) : Int := inI c 48 6

theorem Var_any (c : Int) (w : World) (h0 : 0 ≤ c) (h1 : c ≤ 255) :
    Calls Try.prog 61 #[.int .u8 c] w fun e w' => e = .returned (.int .i64 (varI c)) ∧ w' = w := by
  go_enter Try.func61, Try.ntmps61
  go_wp2_with (go_at_call 91; refine (in_any _ _ _ _ h0 h1 (by decide) (by decide)).mono ?_; rintro e w' ⟨rfl, rfl⟩)
  go_ret
  exact ⟨rfl, rfl⟩
theorem Site_any (c : Int) (w : World) (h0 : 0 ≤ c) (h1 : c ≤ 255) :
    Calls Try.prog 62 #[.int .u8 c] w fun e w' => e = .returned (.int .i64 (siteI c)) ∧ w' = w := by
  go_enter Try.func62, Try.ntmps62
  go_wp2_with (go_at_call 91; refine (in_any _ _ _ _ h0 h1 (by decide) (by decide)).mono ?_; rintro e w' ⟨rfl, rfl⟩)
  go_ret
  exact ⟨rfl, rfl⟩
theorem Field_any (c : Int) (w : World) (h0 : 0 ≤ c) (h1 : c ≤ 255) :
    Calls Try.prog 57 #[.int .u8 c] w fun e w' => e = .returned (.int .i64 (fieldI c)) ∧ w' = w := by
  go_enter Try.func57, Try.ntmps57
  go_wp2_with (go_at_call 91; refine (in_any _ _ _ _ h0 h1 (by decide) (by decide)).mono ?_; rintro e w' ⟨rfl, rfl⟩)
  go_ret
  exact ⟨rfl, rfl⟩

theorem var_yes {c : Nat} (h : Al.vB c = true) : 0 ≤ varI c := by simp [Al.vB] at h; unfold varI inI; split <;> omega
theorem var_no {c : Nat} (h : ¬ Al.vB c = true) : varI c < 0 := by simp [Al.vB] at h; unfold varI inI; split <;> omega
theorem site_yes {c : Nat} (h : Al.oB c = true) : 0 ≤ siteI c := by simp [Al.oB] at h; unfold siteI inI; split <;> omega
theorem site_no {c : Nat} (h : ¬ Al.oB c = true) : siteI c < 0 := by simp [Al.oB] at h; unfold siteI inI; split <;> omega
theorem field_yes {c : Nat} (h : Al.fB c = true) : 0 ≤ fieldI c := by simp [Al.fB] at h; unfold fieldI inI; split <;> omega
theorem field_no {c : Nat} (h : ¬ Al.fB c = true) : fieldI c < 0 := by simp [Al.fB] at h; unfold fieldI inI; split <;> omega

theorem bt_at (s : ByteArray) (k : Nat) (h : k < s.size) : Al.bt s.data.toList k = s[k].toNat := by
  have h' : k < s.data.size := h
  simp only [Al.bt, List.getD, Array.getElem?_toList, Array.getElem?_eq_getElem h', Option.getD_some]
  rfl
theorem bt_end (s : ByteArray) (k : Nat) (h : s.size ≤ k) : Al.bt s.data.toList k = 0 := by
  have h' : s.data.size ≤ k := h
  simp [Al.bt, List.getD, Array.getElem?_eq_none h']
theorem bt_le (l : List UInt8) (k : Nat) : Al.bt l k ≤ 255 := by
  have := (l.getD k 0).toNat_lt
  unfold Al.bt; omega

/-- The byte at place i, 0 behind the end. -/
def btI (s : ByteArray) (i : Int) : Int := Al.bt s.data.toList i.toNat
theorem btI_ge (s : ByteArray) (i : Int) : 0 ≤ btI s i := by unfold btI; omega
theorem btI_le (s : ByteArray) (i : Int) : btI s i ≤ 255 := by have := bt_le s.data.toList i.toNat; unfold btI; omega
theorem btI_nat (s : ByteArray) (k : Nat) : btI s k = Al.bt s.data.toList k := by unfold btI; rw [Int.toNat_natCast]
theorem btI_add (s : ByteArray) (k j : Nat) : btI s ((k : Int) + j) = Al.bt s.data.toList (k + j) := by unfold btI; rw [show ((k : Int) + (j : Int)).toNat = k + j from by omega]

set_option maxHeartbeats 400000 in
theorem at_any (s : ByteArray) (i : Int) (w : World) (h0 : 0 ≤ i) :
    Calls Try.prog 102 #[.string s, .int .i64 i] w fun e w' => e = .returned (.int .u8 (btI s i)) ∧ w' = w := by
  obtain ⟨k, rfl⟩ := Int.eq_ofNat_of_zero_le h0
  by_cases hlt : k < s.size
  · go_enter Try.func102, Try.ntmps102
    go_wp2
    go_ret
    exact ⟨ret_int (by rw [btI_nat, bt_at s k hlt]), rfl⟩
  · go_enter Try.func102, Try.ntmps102
    go_wp2
    go_ret
    exact ⟨ret_int (by rw [btI_nat, bt_end s k (by omega)]; rfl), rfl⟩

/-- left: what stands ahead of the sign =. -/
def leftP (l : List UInt8) (i : Nat) : Nat × Bool :=
  if Al.vB (Al.bt l i) = true then
    if Al.bt l (i + 1) = 46 then if Al.fB (Al.bt l (i + 2)) = true then (i + 3, true) else (i + 2, false)
    else (i + 1, true)
  else (i, false)
def leftJ (s : ByteArray) (i : Int) : Int := (leftP s.data.toList i.toNat).1
def leftB (s : ByteArray) (i : Int) : Bool := (leftP s.data.toList i.toNat).2
theorem leftJ_nat (s : ByteArray) (k : Nat) : leftJ s k = (leftP s.data.toList k).1 := by unfold leftJ; rw [Int.toNat_natCast]
theorem leftB_nat (s : ByteArray) (k : Nat) : leftB s k = (leftP s.data.toList k).2 := by unfold leftB; rw [Int.toNat_natCast]

set_option maxHeartbeats 400000 in
theorem left_a (s : ByteArray) (k : Nat) (w : World) (_h1 : (k : Int) ≤ 2000000) (c0 : ¬ Al.vB (Al.bt s.data.toList k) = true) :
    Calls Try.prog 101 #[.string s, .int .i64 k] w fun e w' => e = .returned (.tuple #[.int .i64 ((leftP s.data.toList k).1 : Nat), .bool (leftP s.data.toList k).2]) ∧ w' = w := by
  have HF : Hid (leftP s.data.toList k = (k, false)) := by simp [Hid, leftP, c0]
  have f00 : varI (btI s (k : Int)) < 0 := by rw [(show btI s (k : Int) = Al.bt s.data.toList k from btI_nat s k)]; exact var_no c0
  clear c0
  go_enter Try.func101, Try.ntmps101
  go_wp2_with (first | (go_at_call 102; refine (at_any _ _ _ (by omega)).mono ?_; rintro e w' ⟨rfl, rfl⟩) | (go_at_call 61; refine (Var_any _ _ (btI_ge _ _) (btI_le _ _)).mono ?_; rintro e w' ⟨rfl, rfl⟩) | (go_at_call 57; refine (Field_any _ _ (btI_ge _ _) (btI_le _ _)).mono ?_; rintro e w' ⟨rfl, rfl⟩))
  go_ret2
  exact ⟨by simp [HF.out]; try omega, rfl⟩
set_option maxHeartbeats 400000 in
theorem left_b (s : ByteArray) (k : Nat) (w : World) (_h1 : (k : Int) ≤ 2000000) (c0 : Al.vB (Al.bt s.data.toList k) = true) (c1 : ¬ Al.bt s.data.toList (k + 1) = 46) :
    Calls Try.prog 101 #[.string s, .int .i64 k] w fun e w' => e = .returned (.tuple #[.int .i64 ((leftP s.data.toList k).1 : Nat), .bool (leftP s.data.toList k).2]) ∧ w' = w := by
  have HF : Hid (leftP s.data.toList k = (k + 1, true)) := by simp [Hid, leftP, c0, c1]
  have f00 : 0 ≤ varI (btI s (k : Int)) := by rw [(show btI s (k : Int) = Al.bt s.data.toList k from btI_nat s k)]; exact var_yes c0
  have f10 : ¬ btI s ((k : Int) + 1) = 46 := by rw [(show btI s ((k : Int) + 1) = Al.bt s.data.toList (k + 1) from btI_add s k 1)]; omega
  clear c0 c1
  go_enter Try.func101, Try.ntmps101
  go_wp2_with (first | (go_at_call 102; refine (at_any _ _ _ (by omega)).mono ?_; rintro e w' ⟨rfl, rfl⟩) | (go_at_call 61; refine (Var_any _ _ (btI_ge _ _) (btI_le _ _)).mono ?_; rintro e w' ⟨rfl, rfl⟩) | (go_at_call 57; refine (Field_any _ _ (btI_ge _ _) (btI_le _ _)).mono ?_; rintro e w' ⟨rfl, rfl⟩))
  go_ret2
  exact ⟨by simp [HF.out]; try omega, rfl⟩
set_option maxHeartbeats 400000 in
theorem left_c (s : ByteArray) (k : Nat) (w : World) (_h1 : (k : Int) ≤ 2000000) (c0 : Al.vB (Al.bt s.data.toList k) = true) (c1 : Al.bt s.data.toList (k + 1) = 46) (c2 : ¬ Al.fB (Al.bt s.data.toList (k + 2)) = true) :
    Calls Try.prog 101 #[.string s, .int .i64 k] w fun e w' => e = .returned (.tuple #[.int .i64 ((leftP s.data.toList k).1 : Nat), .bool (leftP s.data.toList k).2]) ∧ w' = w := by
  have HF : Hid (leftP s.data.toList k = (k + 2, false)) := by simp [Hid, leftP, c0, c1, c2]
  have f00 : 0 ≤ varI (btI s (k : Int)) := by rw [(show btI s (k : Int) = Al.bt s.data.toList k from btI_nat s k)]; exact var_yes c0
  have f10 : btI s ((k : Int) + 1) = 46 := by rw [(show btI s ((k : Int) + 1) = Al.bt s.data.toList (k + 1) from btI_add s k 1)]; omega
  have f20 : fieldI (btI s ((k : Int) + 2)) < 0 := by rw [(show btI s ((k : Int) + 2) = Al.bt s.data.toList (k + 2) from btI_add s k 2)]; exact field_no c2
  clear c0 c1 c2
  go_enter Try.func101, Try.ntmps101
  go_wp2_with (first | (go_at_call 102; refine (at_any _ _ _ (by omega)).mono ?_; rintro e w' ⟨rfl, rfl⟩) | (go_at_call 61; refine (Var_any _ _ (btI_ge _ _) (btI_le _ _)).mono ?_; rintro e w' ⟨rfl, rfl⟩) | (go_at_call 57; refine (Field_any _ _ (btI_ge _ _) (btI_le _ _)).mono ?_; rintro e w' ⟨rfl, rfl⟩))
  go_ret2
  exact ⟨by simp [HF.out]; try omega, rfl⟩
set_option maxHeartbeats 400000 in
theorem left_d (s : ByteArray) (k : Nat) (w : World) (_h1 : (k : Int) ≤ 2000000) (c0 : Al.vB (Al.bt s.data.toList k) = true) (c1 : Al.bt s.data.toList (k + 1) = 46) (c2 : Al.fB (Al.bt s.data.toList (k + 2)) = true) :
    Calls Try.prog 101 #[.string s, .int .i64 k] w fun e w' => e = .returned (.tuple #[.int .i64 ((leftP s.data.toList k).1 : Nat), .bool (leftP s.data.toList k).2]) ∧ w' = w := by
  have HF : Hid (leftP s.data.toList k = (k + 3, true)) := by simp [Hid, leftP, c0, c1, c2]
  have f00 : 0 ≤ varI (btI s (k : Int)) := by rw [(show btI s (k : Int) = Al.bt s.data.toList k from btI_nat s k)]; exact var_yes c0
  have f10 : btI s ((k : Int) + 1) = 46 := by rw [(show btI s ((k : Int) + 1) = Al.bt s.data.toList (k + 1) from btI_add s k 1)]; omega
  have f20 : 0 ≤ fieldI (btI s ((k : Int) + 2)) := by rw [(show btI s ((k : Int) + 2) = Al.bt s.data.toList (k + 2) from btI_add s k 2)]; exact field_yes c2
  clear c0 c1 c2
  go_enter Try.func101, Try.ntmps101
  go_wp2_with (first | (go_at_call 102; refine (at_any _ _ _ (by omega)).mono ?_; rintro e w' ⟨rfl, rfl⟩) | (go_at_call 61; refine (Var_any _ _ (btI_ge _ _) (btI_le _ _)).mono ?_; rintro e w' ⟨rfl, rfl⟩) | (go_at_call 57; refine (Field_any _ _ (btI_ge _ _) (btI_le _ _)).mono ?_; rintro e w' ⟨rfl, rfl⟩))
  go_ret2
  exact ⟨by simp [HF.out]; try omega, rfl⟩
theorem left_any (s : ByteArray) (i : Int) (w : World) (h0 : 0 ≤ i) (h1 : i ≤ 2000000) :
    Calls Try.prog 101 #[.string s, .int .i64 i] w fun e w' => e = .returned (.tuple #[.int .i64 (leftJ s i), .bool (leftB s i)]) ∧ w' = w := by
  obtain ⟨k, rfl⟩ := Int.eq_ofNat_of_zero_le h0
  rw [leftJ_nat, leftB_nat]
  by_cases c0 : Al.vB (Al.bt s.data.toList k) = true
  · by_cases c1 : Al.bt s.data.toList (k + 1) = 46
    · by_cases c2 : Al.fB (Al.bt s.data.toList (k + 2)) = true
      · exact left_d s k w h1 c0 c1 c2
      · exact left_c s k w h1 c0 c1 c2
    · exact left_b s k w h1 c0 c1
  · exact left_a s k w h1 c0
end Go.Proofs.Ytmjlcajcobbcgaa

namespace Go.Proofs.Ytmjlcajcobbcgaa
open Go.RowKit
set_option maxHeartbeats 400000 in
theorem Stmt_a (s : ByteArray) (k : Nat) (w : World) (_h1 : (k : Int) ≤ 1000000) (c0 : ¬ Al.vB (Al.bt s.data.toList k) = true) :
    Calls Try.prog 90 #[.string s, .int .i64 k] w fun e w' => e = .returned (.tuple #[.int .i64 ((Al.refStmt s.data.toList k).1 : Nat), .bool (Al.refStmt s.data.toList k).2]) ∧ w' = w := by
  have HF : Hid (Al.refStmt s.data.toList k = (k, false)) := by simp [Hid, Al.refStmt, c0]
  have l00 : leftJ s (k : Int) = (k : Int) ∧ leftB s (k : Int) = false := by
    have P00 : (k : Int) = (((k) : Nat) : Int) := by omega
    have Q00 : leftP s.data.toList k = (k, false) := by simp [leftP, c0]
    rw [P00, leftJ_nat, leftB_nat, Q00]
    exact ⟨by simp, rfl⟩
  obtain ⟨lj00, lb00⟩ := l00
  have f00 : varI (btI s (k : Int)) < 0 := by rw [(show btI s (k : Int) = Al.bt s.data.toList k from btI_nat s k)]; exact var_no c0
  clear c0
  go_enter Try.func90, Try.ntmps90
  go_wp2_with (first | (go_at_call 102; refine (at_any _ _ _ (by omega)).mono ?_; rintro e w' ⟨rfl, rfl⟩) | (go_at_call 61; refine (Var_any _ _ (btI_ge _ _) (btI_le _ _)).mono ?_; rintro e w' ⟨rfl, rfl⟩) | (go_at_call 57; refine (Field_any _ _ (btI_ge _ _) (btI_le _ _)).mono ?_; rintro e w' ⟨rfl, rfl⟩) | (go_at_call 62; refine (Site_any _ _ (btI_ge _ _) (btI_le _ _)).mono ?_; rintro e w' ⟨rfl, rfl⟩) | (go_at_call 101; refine (left_any _ _ _ (by omega) (by omega)).mono ?_; rintro e w' ⟨rfl, rfl⟩))
  go_ret2
  exact ⟨by simp [HF.out]; try omega, rfl⟩
set_option maxHeartbeats 400000 in
theorem Stmt_b (s : ByteArray) (k : Nat) (w : World) (_h1 : (k : Int) ≤ 1000000) (c0 : Al.vB (Al.bt s.data.toList k) = true) (c1 : Al.bt s.data.toList (k + 1) = 46) (c2 : ¬ Al.fB (Al.bt s.data.toList (k + 2)) = true) :
    Calls Try.prog 90 #[.string s, .int .i64 k] w fun e w' => e = .returned (.tuple #[.int .i64 ((Al.refStmt s.data.toList k).1 : Nat), .bool (Al.refStmt s.data.toList k).2]) ∧ w' = w := by
  have HF : Hid (Al.refStmt s.data.toList k = (k + 2, false)) := by simp [Hid, Al.refStmt, c0, c1, c2]
  have l00 : leftJ s (k : Int) = (k : Int) + 2 ∧ leftB s (k : Int) = false := by
    have P00 : (k : Int) = (((k) : Nat) : Int) := by omega
    have Q00 : leftP s.data.toList k = (k + 2, false) := by simp [leftP, c0, c1, c2]
    rw [P00, leftJ_nat, leftB_nat, Q00]
    exact ⟨by simp, rfl⟩
  obtain ⟨lj00, lb00⟩ := l00
  have f00 : 0 ≤ varI (btI s (k : Int)) := by rw [(show btI s (k : Int) = Al.bt s.data.toList k from btI_nat s k)]; exact var_yes c0
  have f10 : btI s ((k : Int) + 1) = 46 := by rw [(show btI s ((k : Int) + 1) = Al.bt s.data.toList (k + 1) from btI_add s k 1)]; omega
  have f20 : fieldI (btI s ((k : Int) + 2)) < 0 := by rw [(show btI s ((k : Int) + 2) = Al.bt s.data.toList (k + 2) from btI_add s k 2)]; exact field_no c2
  have f21 : fieldI (btI s ((k : Int) + 1 + 1)) < 0 := by rw [(show btI s ((k : Int) + 1 + 1) = Al.bt s.data.toList (k + 2) from by rw [show ((k : Int) + 1 + 1) = (k : Int) + ((2 : Nat) : Int) from by omega]; exact btI_add s k 2)]; exact field_no c2
  clear c0 c1 c2
  go_enter Try.func90, Try.ntmps90
  go_wp2_with (first | (go_at_call 102; refine (at_any _ _ _ (by omega)).mono ?_; rintro e w' ⟨rfl, rfl⟩) | (go_at_call 61; refine (Var_any _ _ (btI_ge _ _) (btI_le _ _)).mono ?_; rintro e w' ⟨rfl, rfl⟩) | (go_at_call 57; refine (Field_any _ _ (btI_ge _ _) (btI_le _ _)).mono ?_; rintro e w' ⟨rfl, rfl⟩) | (go_at_call 62; refine (Site_any _ _ (btI_ge _ _) (btI_le _ _)).mono ?_; rintro e w' ⟨rfl, rfl⟩) | (go_at_call 101; refine (left_any _ _ _ (by omega) (by omega)).mono ?_; rintro e w' ⟨rfl, rfl⟩))
  go_ret2
  exact ⟨by simp [HF.out]; try omega, rfl⟩
set_option maxHeartbeats 400000 in
theorem Stmt_c (s : ByteArray) (k : Nat) (w : World) (_h1 : (k : Int) ≤ 1000000) (c0 : Al.vB (Al.bt s.data.toList k) = true) (c1 : Al.bt s.data.toList (k + 1) = 46) (c2 : Al.fB (Al.bt s.data.toList (k + 2)) = true) (c3 : ¬ Al.bt s.data.toList (k + 3) = 61) :
    Calls Try.prog 90 #[.string s, .int .i64 k] w fun e w' => e = .returned (.tuple #[.int .i64 ((Al.refStmt s.data.toList k).1 : Nat), .bool (Al.refStmt s.data.toList k).2]) ∧ w' = w := by
  have HF : Hid (Al.refStmt s.data.toList k = (k + 3, false)) := by simp [Hid, Al.refStmt, c0, c1, c2, c3]
  have l00 : leftJ s (k : Int) = (k : Int) + 3 ∧ leftB s (k : Int) = true := by
    have P00 : (k : Int) = (((k) : Nat) : Int) := by omega
    have Q00 : leftP s.data.toList k = (k + 3, true) := by simp [leftP, c0, c1, c2]
    rw [P00, leftJ_nat, leftB_nat, Q00]
    exact ⟨by simp, rfl⟩
  obtain ⟨lj00, lb00⟩ := l00
  have f00 : 0 ≤ varI (btI s (k : Int)) := by rw [(show btI s (k : Int) = Al.bt s.data.toList k from btI_nat s k)]; exact var_yes c0
  have f10 : btI s ((k : Int) + 1) = 46 := by rw [(show btI s ((k : Int) + 1) = Al.bt s.data.toList (k + 1) from btI_add s k 1)]; omega
  have f20 : 0 ≤ fieldI (btI s ((k : Int) + 2)) := by rw [(show btI s ((k : Int) + 2) = Al.bt s.data.toList (k + 2) from btI_add s k 2)]; exact field_yes c2
  have f21 : 0 ≤ fieldI (btI s ((k : Int) + 1 + 1)) := by rw [(show btI s ((k : Int) + 1 + 1) = Al.bt s.data.toList (k + 2) from by rw [show ((k : Int) + 1 + 1) = (k : Int) + ((2 : Nat) : Int) from by omega]; exact btI_add s k 2)]; exact field_yes c2
  have f30 : ¬ btI s ((k : Int) + 3) = 61 := by rw [(show btI s ((k : Int) + 3) = Al.bt s.data.toList (k + 3) from btI_add s k 3)]; omega
  have f31 : ¬ btI s ((k : Int) + 1 + 1 + 1) = 61 := by rw [(show btI s ((k : Int) + 1 + 1 + 1) = Al.bt s.data.toList (k + 3) from by rw [show ((k : Int) + 1 + 1 + 1) = (k : Int) + ((3 : Nat) : Int) from by omega]; exact btI_add s k 3)]; omega
  have f32 : ¬ btI s ((k : Int) + 2 + 1) = 61 := by rw [(show btI s ((k : Int) + 2 + 1) = Al.bt s.data.toList (k + 3) from by rw [show ((k : Int) + 2 + 1) = (k : Int) + ((3 : Nat) : Int) from by omega]; exact btI_add s k 3)]; omega
  clear c0 c1 c2 c3
  go_enter Try.func90, Try.ntmps90
  go_wp2_with (first | (go_at_call 102; refine (at_any _ _ _ (by omega)).mono ?_; rintro e w' ⟨rfl, rfl⟩) | (go_at_call 61; refine (Var_any _ _ (btI_ge _ _) (btI_le _ _)).mono ?_; rintro e w' ⟨rfl, rfl⟩) | (go_at_call 57; refine (Field_any _ _ (btI_ge _ _) (btI_le _ _)).mono ?_; rintro e w' ⟨rfl, rfl⟩) | (go_at_call 62; refine (Site_any _ _ (btI_ge _ _) (btI_le _ _)).mono ?_; rintro e w' ⟨rfl, rfl⟩) | (go_at_call 101; refine (left_any _ _ _ (by omega) (by omega)).mono ?_; rintro e w' ⟨rfl, rfl⟩))
  go_ret2
  exact ⟨by simp [HF.out]; try omega, rfl⟩
set_option maxHeartbeats 400000 in
theorem Stmt_d (s : ByteArray) (k : Nat) (w : World) (_h1 : (k : Int) ≤ 1000000) (c0 : Al.vB (Al.bt s.data.toList k) = true) (c1 : Al.bt s.data.toList (k + 1) = 46) (c2 : Al.fB (Al.bt s.data.toList (k + 2)) = true) (c3 : Al.bt s.data.toList (k + 3) = 61) (c4 : ¬ Al.vB (Al.bt s.data.toList (k + 4)) = true) :
    Calls Try.prog 90 #[.string s, .int .i64 k] w fun e w' => e = .returned (.tuple #[.int .i64 ((Al.refStmt s.data.toList k).1 : Nat), .bool (Al.refStmt s.data.toList k).2]) ∧ w' = w := by
  have HF : Hid (Al.refStmt s.data.toList k = (k + 4, false)) := by simp [Hid, Al.refStmt, c0, c1, c2, c3, c4]
  have l00 : leftJ s (k : Int) = (k : Int) + 3 ∧ leftB s (k : Int) = true := by
    have P00 : (k : Int) = (((k) : Nat) : Int) := by omega
    have Q00 : leftP s.data.toList k = (k + 3, true) := by simp [leftP, c0, c1, c2]
    rw [P00, leftJ_nat, leftB_nat, Q00]
    exact ⟨by simp, rfl⟩
  obtain ⟨lj00, lb00⟩ := l00
  have f00 : 0 ≤ varI (btI s (k : Int)) := by rw [(show btI s (k : Int) = Al.bt s.data.toList k from btI_nat s k)]; exact var_yes c0
  have f10 : btI s ((k : Int) + 1) = 46 := by rw [(show btI s ((k : Int) + 1) = Al.bt s.data.toList (k + 1) from btI_add s k 1)]; omega
  have f20 : 0 ≤ fieldI (btI s ((k : Int) + 2)) := by rw [(show btI s ((k : Int) + 2) = Al.bt s.data.toList (k + 2) from btI_add s k 2)]; exact field_yes c2
  have f21 : 0 ≤ fieldI (btI s ((k : Int) + 1 + 1)) := by rw [(show btI s ((k : Int) + 1 + 1) = Al.bt s.data.toList (k + 2) from by rw [show ((k : Int) + 1 + 1) = (k : Int) + ((2 : Nat) : Int) from by omega]; exact btI_add s k 2)]; exact field_yes c2
  have f30 : btI s ((k : Int) + 3) = 61 := by rw [(show btI s ((k : Int) + 3) = Al.bt s.data.toList (k + 3) from btI_add s k 3)]; omega
  have f31 : btI s ((k : Int) + 1 + 1 + 1) = 61 := by rw [(show btI s ((k : Int) + 1 + 1 + 1) = Al.bt s.data.toList (k + 3) from by rw [show ((k : Int) + 1 + 1 + 1) = (k : Int) + ((3 : Nat) : Int) from by omega]; exact btI_add s k 3)]; omega
  have f32 : btI s ((k : Int) + 2 + 1) = 61 := by rw [(show btI s ((k : Int) + 2 + 1) = Al.bt s.data.toList (k + 3) from by rw [show ((k : Int) + 2 + 1) = (k : Int) + ((3 : Nat) : Int) from by omega]; exact btI_add s k 3)]; omega
  have f40 : varI (btI s ((k : Int) + 4)) < 0 := by rw [(show btI s ((k : Int) + 4) = Al.bt s.data.toList (k + 4) from btI_add s k 4)]; exact var_no c4
  have f41 : varI (btI s ((k : Int) + 3 + 1)) < 0 := by rw [(show btI s ((k : Int) + 3 + 1) = Al.bt s.data.toList (k + 4) from by rw [show ((k : Int) + 3 + 1) = (k : Int) + ((4 : Nat) : Int) from by omega]; exact btI_add s k 4)]; exact var_no c4
  have f42 : varI (btI s ((k : Int) + 1 + 1 + 2)) < 0 := by rw [(show btI s ((k : Int) + 1 + 1 + 2) = Al.bt s.data.toList (k + 4) from by rw [show ((k : Int) + 1 + 1 + 2) = (k : Int) + ((4 : Nat) : Int) from by omega]; exact btI_add s k 4)]; exact var_no c4
  have f43 : varI (btI s ((k : Int) + 2 + 2)) < 0 := by rw [(show btI s ((k : Int) + 2 + 2) = Al.bt s.data.toList (k + 4) from by rw [show ((k : Int) + 2 + 2) = (k : Int) + ((4 : Nat) : Int) from by omega]; exact btI_add s k 4)]; exact var_no c4
  clear c0 c1 c2 c3 c4
  go_enter Try.func90, Try.ntmps90
  go_wp2_with (first | (go_at_call 102; refine (at_any _ _ _ (by omega)).mono ?_; rintro e w' ⟨rfl, rfl⟩) | (go_at_call 61; refine (Var_any _ _ (btI_ge _ _) (btI_le _ _)).mono ?_; rintro e w' ⟨rfl, rfl⟩) | (go_at_call 57; refine (Field_any _ _ (btI_ge _ _) (btI_le _ _)).mono ?_; rintro e w' ⟨rfl, rfl⟩) | (go_at_call 62; refine (Site_any _ _ (btI_ge _ _) (btI_le _ _)).mono ?_; rintro e w' ⟨rfl, rfl⟩) | (go_at_call 101; refine (left_any _ _ _ (by omega) (by omega)).mono ?_; rintro e w' ⟨rfl, rfl⟩))
  go_ret2
  exact ⟨by simp [HF.out]; try omega, rfl⟩
set_option maxHeartbeats 400000 in
theorem Stmt_e (s : ByteArray) (k : Nat) (w : World) (_h1 : (k : Int) ≤ 1000000) (c0 : Al.vB (Al.bt s.data.toList k) = true) (c1 : Al.bt s.data.toList (k + 1) = 46) (c2 : Al.fB (Al.bt s.data.toList (k + 2)) = true) (c3 : Al.bt s.data.toList (k + 3) = 61) (c4 : Al.vB (Al.bt s.data.toList (k + 4)) = true) (c5 : ¬ Al.bt s.data.toList (k + 5) = 59) :
    Calls Try.prog 90 #[.string s, .int .i64 k] w fun e w' => e = .returned (.tuple #[.int .i64 ((Al.refStmt s.data.toList k).1 : Nat), .bool (Al.refStmt s.data.toList k).2]) ∧ w' = w := by
  have HF : Hid (Al.refStmt s.data.toList k = (k + 5, false)) := by simp [Hid, Al.refStmt, c0, c1, c2, c3, c4, c5]
  have l00 : leftJ s (k : Int) = (k : Int) + 3 ∧ leftB s (k : Int) = true := by
    have P00 : (k : Int) = (((k) : Nat) : Int) := by omega
    have Q00 : leftP s.data.toList k = (k + 3, true) := by simp [leftP, c0, c1, c2]
    rw [P00, leftJ_nat, leftB_nat, Q00]
    exact ⟨by simp, rfl⟩
  obtain ⟨lj00, lb00⟩ := l00
  have f00 : 0 ≤ varI (btI s (k : Int)) := by rw [(show btI s (k : Int) = Al.bt s.data.toList k from btI_nat s k)]; exact var_yes c0
  have f10 : btI s ((k : Int) + 1) = 46 := by rw [(show btI s ((k : Int) + 1) = Al.bt s.data.toList (k + 1) from btI_add s k 1)]; omega
  have f20 : 0 ≤ fieldI (btI s ((k : Int) + 2)) := by rw [(show btI s ((k : Int) + 2) = Al.bt s.data.toList (k + 2) from btI_add s k 2)]; exact field_yes c2
  have f21 : 0 ≤ fieldI (btI s ((k : Int) + 1 + 1)) := by rw [(show btI s ((k : Int) + 1 + 1) = Al.bt s.data.toList (k + 2) from by rw [show ((k : Int) + 1 + 1) = (k : Int) + ((2 : Nat) : Int) from by omega]; exact btI_add s k 2)]; exact field_yes c2
  have f30 : btI s ((k : Int) + 3) = 61 := by rw [(show btI s ((k : Int) + 3) = Al.bt s.data.toList (k + 3) from btI_add s k 3)]; omega
  have f31 : btI s ((k : Int) + 1 + 1 + 1) = 61 := by rw [(show btI s ((k : Int) + 1 + 1 + 1) = Al.bt s.data.toList (k + 3) from by rw [show ((k : Int) + 1 + 1 + 1) = (k : Int) + ((3 : Nat) : Int) from by omega]; exact btI_add s k 3)]; omega
  have f32 : btI s ((k : Int) + 2 + 1) = 61 := by rw [(show btI s ((k : Int) + 2 + 1) = Al.bt s.data.toList (k + 3) from by rw [show ((k : Int) + 2 + 1) = (k : Int) + ((3 : Nat) : Int) from by omega]; exact btI_add s k 3)]; omega
  have f40 : 0 ≤ varI (btI s ((k : Int) + 4)) := by rw [(show btI s ((k : Int) + 4) = Al.bt s.data.toList (k + 4) from btI_add s k 4)]; exact var_yes c4
  have f41 : 0 ≤ varI (btI s ((k : Int) + 3 + 1)) := by rw [(show btI s ((k : Int) + 3 + 1) = Al.bt s.data.toList (k + 4) from by rw [show ((k : Int) + 3 + 1) = (k : Int) + ((4 : Nat) : Int) from by omega]; exact btI_add s k 4)]; exact var_yes c4
  have f42 : 0 ≤ varI (btI s ((k : Int) + 1 + 1 + 2)) := by rw [(show btI s ((k : Int) + 1 + 1 + 2) = Al.bt s.data.toList (k + 4) from by rw [show ((k : Int) + 1 + 1 + 2) = (k : Int) + ((4 : Nat) : Int) from by omega]; exact btI_add s k 4)]; exact var_yes c4
  have f43 : 0 ≤ varI (btI s ((k : Int) + 2 + 2)) := by rw [(show btI s ((k : Int) + 2 + 2) = Al.bt s.data.toList (k + 4) from by rw [show ((k : Int) + 2 + 2) = (k : Int) + ((4 : Nat) : Int) from by omega]; exact btI_add s k 4)]; exact var_yes c4
  have f50 : ¬ btI s ((k : Int) + 5) = 59 := by rw [(show btI s ((k : Int) + 5) = Al.bt s.data.toList (k + 5) from btI_add s k 5)]; omega
  have f51 : ¬ btI s ((k : Int) + 3 + 1 + 1) = 59 := by rw [(show btI s ((k : Int) + 3 + 1 + 1) = Al.bt s.data.toList (k + 5) from by rw [show ((k : Int) + 3 + 1 + 1) = (k : Int) + ((5 : Nat) : Int) from by omega]; exact btI_add s k 5)]; omega
  have f52 : ¬ btI s ((k : Int) + 4 + 1) = 59 := by rw [(show btI s ((k : Int) + 4 + 1) = Al.bt s.data.toList (k + 5) from by rw [show ((k : Int) + 4 + 1) = (k : Int) + ((5 : Nat) : Int) from by omega]; exact btI_add s k 5)]; omega
  clear c0 c1 c2 c3 c4 c5
  go_enter Try.func90, Try.ntmps90
  go_wp2_with (first | (go_at_call 102; refine (at_any _ _ _ (by omega)).mono ?_; rintro e w' ⟨rfl, rfl⟩) | (go_at_call 61; refine (Var_any _ _ (btI_ge _ _) (btI_le _ _)).mono ?_; rintro e w' ⟨rfl, rfl⟩) | (go_at_call 57; refine (Field_any _ _ (btI_ge _ _) (btI_le _ _)).mono ?_; rintro e w' ⟨rfl, rfl⟩) | (go_at_call 62; refine (Site_any _ _ (btI_ge _ _) (btI_le _ _)).mono ?_; rintro e w' ⟨rfl, rfl⟩) | (go_at_call 101; refine (left_any _ _ _ (by omega) (by omega)).mono ?_; rintro e w' ⟨rfl, rfl⟩))
  go_ret2
  exact ⟨by simp [HF.out]; try omega, rfl⟩
set_option maxHeartbeats 400000 in
theorem Stmt_f (s : ByteArray) (k : Nat) (w : World) (_h1 : (k : Int) ≤ 1000000) (c0 : Al.vB (Al.bt s.data.toList k) = true) (c1 : Al.bt s.data.toList (k + 1) = 46) (c2 : Al.fB (Al.bt s.data.toList (k + 2)) = true) (c3 : Al.bt s.data.toList (k + 3) = 61) (c4 : Al.vB (Al.bt s.data.toList (k + 4)) = true) (c5 : Al.bt s.data.toList (k + 5) = 59) :
    Calls Try.prog 90 #[.string s, .int .i64 k] w fun e w' => e = .returned (.tuple #[.int .i64 ((Al.refStmt s.data.toList k).1 : Nat), .bool (Al.refStmt s.data.toList k).2]) ∧ w' = w := by
  have HF : Hid (Al.refStmt s.data.toList k = (k + 6, true)) := by simp [Hid, Al.refStmt, c0, c1, c2, c3, c4, c5]
  have l00 : leftJ s (k : Int) = (k : Int) + 3 ∧ leftB s (k : Int) = true := by
    have P00 : (k : Int) = (((k) : Nat) : Int) := by omega
    have Q00 : leftP s.data.toList k = (k + 3, true) := by simp [leftP, c0, c1, c2]
    rw [P00, leftJ_nat, leftB_nat, Q00]
    exact ⟨by simp, rfl⟩
  obtain ⟨lj00, lb00⟩ := l00
  have f00 : 0 ≤ varI (btI s (k : Int)) := by rw [(show btI s (k : Int) = Al.bt s.data.toList k from btI_nat s k)]; exact var_yes c0
  have f10 : btI s ((k : Int) + 1) = 46 := by rw [(show btI s ((k : Int) + 1) = Al.bt s.data.toList (k + 1) from btI_add s k 1)]; omega
  have f20 : 0 ≤ fieldI (btI s ((k : Int) + 2)) := by rw [(show btI s ((k : Int) + 2) = Al.bt s.data.toList (k + 2) from btI_add s k 2)]; exact field_yes c2
  have f21 : 0 ≤ fieldI (btI s ((k : Int) + 1 + 1)) := by rw [(show btI s ((k : Int) + 1 + 1) = Al.bt s.data.toList (k + 2) from by rw [show ((k : Int) + 1 + 1) = (k : Int) + ((2 : Nat) : Int) from by omega]; exact btI_add s k 2)]; exact field_yes c2
  have f30 : btI s ((k : Int) + 3) = 61 := by rw [(show btI s ((k : Int) + 3) = Al.bt s.data.toList (k + 3) from btI_add s k 3)]; omega
  have f31 : btI s ((k : Int) + 1 + 1 + 1) = 61 := by rw [(show btI s ((k : Int) + 1 + 1 + 1) = Al.bt s.data.toList (k + 3) from by rw [show ((k : Int) + 1 + 1 + 1) = (k : Int) + ((3 : Nat) : Int) from by omega]; exact btI_add s k 3)]; omega
  have f32 : btI s ((k : Int) + 2 + 1) = 61 := by rw [(show btI s ((k : Int) + 2 + 1) = Al.bt s.data.toList (k + 3) from by rw [show ((k : Int) + 2 + 1) = (k : Int) + ((3 : Nat) : Int) from by omega]; exact btI_add s k 3)]; omega
  have f40 : 0 ≤ varI (btI s ((k : Int) + 4)) := by rw [(show btI s ((k : Int) + 4) = Al.bt s.data.toList (k + 4) from btI_add s k 4)]; exact var_yes c4
  have f41 : 0 ≤ varI (btI s ((k : Int) + 3 + 1)) := by rw [(show btI s ((k : Int) + 3 + 1) = Al.bt s.data.toList (k + 4) from by rw [show ((k : Int) + 3 + 1) = (k : Int) + ((4 : Nat) : Int) from by omega]; exact btI_add s k 4)]; exact var_yes c4
  have f42 : 0 ≤ varI (btI s ((k : Int) + 1 + 1 + 2)) := by rw [(show btI s ((k : Int) + 1 + 1 + 2) = Al.bt s.data.toList (k + 4) from by rw [show ((k : Int) + 1 + 1 + 2) = (k : Int) + ((4 : Nat) : Int) from by omega]; exact btI_add s k 4)]; exact var_yes c4
  have f43 : 0 ≤ varI (btI s ((k : Int) + 2 + 2)) := by rw [(show btI s ((k : Int) + 2 + 2) = Al.bt s.data.toList (k + 4) from by rw [show ((k : Int) + 2 + 2) = (k : Int) + ((4 : Nat) : Int) from by omega]; exact btI_add s k 4)]; exact var_yes c4
  have f50 : btI s ((k : Int) + 5) = 59 := by rw [(show btI s ((k : Int) + 5) = Al.bt s.data.toList (k + 5) from btI_add s k 5)]; omega
  have f51 : btI s ((k : Int) + 3 + 1 + 1) = 59 := by rw [(show btI s ((k : Int) + 3 + 1 + 1) = Al.bt s.data.toList (k + 5) from by rw [show ((k : Int) + 3 + 1 + 1) = (k : Int) + ((5 : Nat) : Int) from by omega]; exact btI_add s k 5)]; omega
  have f52 : btI s ((k : Int) + 4 + 1) = 59 := by rw [(show btI s ((k : Int) + 4 + 1) = Al.bt s.data.toList (k + 5) from by rw [show ((k : Int) + 4 + 1) = (k : Int) + ((5 : Nat) : Int) from by omega]; exact btI_add s k 5)]; omega
  clear c0 c1 c2 c3 c4 c5
  go_enter Try.func90, Try.ntmps90
  go_wp2_with (first | (go_at_call 102; refine (at_any _ _ _ (by omega)).mono ?_; rintro e w' ⟨rfl, rfl⟩) | (go_at_call 61; refine (Var_any _ _ (btI_ge _ _) (btI_le _ _)).mono ?_; rintro e w' ⟨rfl, rfl⟩) | (go_at_call 57; refine (Field_any _ _ (btI_ge _ _) (btI_le _ _)).mono ?_; rintro e w' ⟨rfl, rfl⟩) | (go_at_call 62; refine (Site_any _ _ (btI_ge _ _) (btI_le _ _)).mono ?_; rintro e w' ⟨rfl, rfl⟩) | (go_at_call 101; refine (left_any _ _ _ (by omega) (by omega)).mono ?_; rintro e w' ⟨rfl, rfl⟩))
  go_ret2
  exact ⟨by simp [HF.out]; try omega, rfl⟩
set_option maxHeartbeats 400000 in
theorem Stmt_g (s : ByteArray) (k : Nat) (w : World) (_h1 : (k : Int) ≤ 1000000) (c0 : Al.vB (Al.bt s.data.toList k) = true) (c1 : ¬ Al.bt s.data.toList (k + 1) = 46) (c2 : ¬ Al.bt s.data.toList (k + 1) = 61) :
    Calls Try.prog 90 #[.string s, .int .i64 k] w fun e w' => e = .returned (.tuple #[.int .i64 ((Al.refStmt s.data.toList k).1 : Nat), .bool (Al.refStmt s.data.toList k).2]) ∧ w' = w := by
  have HF : Hid (Al.refStmt s.data.toList k = (k + 1, false)) := by simp [Hid, Al.refStmt, c0, c1, c2]
  have l00 : leftJ s (k : Int) = (k : Int) + 1 ∧ leftB s (k : Int) = true := by
    have P00 : (k : Int) = (((k) : Nat) : Int) := by omega
    have Q00 : leftP s.data.toList k = (k + 1, true) := by simp [leftP, c0, c1]
    rw [P00, leftJ_nat, leftB_nat, Q00]
    exact ⟨by simp, rfl⟩
  obtain ⟨lj00, lb00⟩ := l00
  have f00 : 0 ≤ varI (btI s (k : Int)) := by rw [(show btI s (k : Int) = Al.bt s.data.toList k from btI_nat s k)]; exact var_yes c0
  have f10 : ¬ btI s ((k : Int) + 1) = 46 := by rw [(show btI s ((k : Int) + 1) = Al.bt s.data.toList (k + 1) from btI_add s k 1)]; omega
  have f20 : ¬ btI s ((k : Int) + 1) = 61 := by rw [(show btI s ((k : Int) + 1) = Al.bt s.data.toList (k + 1) from btI_add s k 1)]; omega
  clear c0 c1 c2
  have g0 : ((k : Int) + 1 == (k : Int) + 3) = false := beq_eq_false_iff_ne.2 (by omega)
  go_enter Try.func90, Try.ntmps90
  go_wp2_with (first | (go_at_call 102; refine (at_any _ _ _ (by omega)).mono ?_; rintro e w' ⟨rfl, rfl⟩) | (go_at_call 61; refine (Var_any _ _ (btI_ge _ _) (btI_le _ _)).mono ?_; rintro e w' ⟨rfl, rfl⟩) | (go_at_call 57; refine (Field_any _ _ (btI_ge _ _) (btI_le _ _)).mono ?_; rintro e w' ⟨rfl, rfl⟩) | (go_at_call 62; refine (Site_any _ _ (btI_ge _ _) (btI_le _ _)).mono ?_; rintro e w' ⟨rfl, rfl⟩) | (go_at_call 101; refine (left_any _ _ _ (by omega) (by omega)).mono ?_; rintro e w' ⟨rfl, rfl⟩))
  go_ret2
  exact ⟨by simp [HF.out]; try omega, rfl⟩
set_option maxHeartbeats 400000 in
theorem Stmt_h (s : ByteArray) (k : Nat) (w : World) (_h1 : (k : Int) ≤ 1000000) (c0 : Al.vB (Al.bt s.data.toList k) = true) (c1 : Al.bt s.data.toList (k + 1) = 61) (c2 : Al.bt s.data.toList (k + 2) = 64) (c3 : ¬ Al.oB (Al.bt s.data.toList (k + 3)) = true) :
    Calls Try.prog 90 #[.string s, .int .i64 k] w fun e w' => e = .returned (.tuple #[.int .i64 ((Al.refStmt s.data.toList k).1 : Nat), .bool (Al.refStmt s.data.toList k).2]) ∧ w' = w := by
  have HF : Hid (Al.refStmt s.data.toList k = (k + 3, false)) := by simp [Hid, Al.refStmt, c0, c1, c2, c3]
  have l00 : leftJ s (k : Int) = (k : Int) + 1 ∧ leftB s (k : Int) = true := by
    have P00 : (k : Int) = (((k) : Nat) : Int) := by omega
    have Q00 : leftP s.data.toList k = (k + 1, true) := by simp [leftP, c0, c1]
    rw [P00, leftJ_nat, leftB_nat, Q00]
    exact ⟨by simp, rfl⟩
  obtain ⟨lj00, lb00⟩ := l00
  have f00 : 0 ≤ varI (btI s (k : Int)) := by rw [(show btI s (k : Int) = Al.bt s.data.toList k from btI_nat s k)]; exact var_yes c0
  have f10 : btI s ((k : Int) + 1) = 61 := by rw [(show btI s ((k : Int) + 1) = Al.bt s.data.toList (k + 1) from btI_add s k 1)]; omega
  have f20 : btI s ((k : Int) + 2) = 64 := by rw [(show btI s ((k : Int) + 2) = Al.bt s.data.toList (k + 2) from btI_add s k 2)]; omega
  have f21 : btI s ((k : Int) + 1 + 1) = 64 := by rw [(show btI s ((k : Int) + 1 + 1) = Al.bt s.data.toList (k + 2) from by rw [show ((k : Int) + 1 + 1) = (k : Int) + ((2 : Nat) : Int) from by omega]; exact btI_add s k 2)]; omega
  have f30 : siteI (btI s ((k : Int) + 3)) < 0 := by rw [(show btI s ((k : Int) + 3) = Al.bt s.data.toList (k + 3) from btI_add s k 3)]; exact site_no c3
  have f31 : siteI (btI s ((k : Int) + 1 + 1 + 1)) < 0 := by rw [(show btI s ((k : Int) + 1 + 1 + 1) = Al.bt s.data.toList (k + 3) from by rw [show ((k : Int) + 1 + 1 + 1) = (k : Int) + ((3 : Nat) : Int) from by omega]; exact btI_add s k 3)]; exact site_no c3
  have f32 : siteI (btI s ((k : Int) + 2 + 1)) < 0 := by rw [(show btI s ((k : Int) + 2 + 1) = Al.bt s.data.toList (k + 3) from by rw [show ((k : Int) + 2 + 1) = (k : Int) + ((3 : Nat) : Int) from by omega]; exact btI_add s k 3)]; exact site_no c3
  clear c0 c1 c2 c3
  have g0 : ((k : Int) + 1 == (k : Int) + 3) = false := beq_eq_false_iff_ne.2 (by omega)
  go_enter Try.func90, Try.ntmps90
  go_wp2_with (first | (go_at_call 102; refine (at_any _ _ _ (by omega)).mono ?_; rintro e w' ⟨rfl, rfl⟩) | (go_at_call 61; refine (Var_any _ _ (btI_ge _ _) (btI_le _ _)).mono ?_; rintro e w' ⟨rfl, rfl⟩) | (go_at_call 57; refine (Field_any _ _ (btI_ge _ _) (btI_le _ _)).mono ?_; rintro e w' ⟨rfl, rfl⟩) | (go_at_call 62; refine (Site_any _ _ (btI_ge _ _) (btI_le _ _)).mono ?_; rintro e w' ⟨rfl, rfl⟩) | (go_at_call 101; refine (left_any _ _ _ (by omega) (by omega)).mono ?_; rintro e w' ⟨rfl, rfl⟩))
  go_ret2
  exact ⟨by simp [HF.out]; try omega, rfl⟩
end Go.Proofs.Ytmjlcajcobbcgaa

namespace Go.Proofs.Ytmjlcajcobbcgaa
open Go.RowKit
set_option maxHeartbeats 400000 in
theorem Stmt_i (s : ByteArray) (k : Nat) (w : World) (_h1 : (k : Int) ≤ 1000000) (c0 : Al.vB (Al.bt s.data.toList k) = true) (c1 : Al.bt s.data.toList (k + 1) = 61) (c2 : Al.bt s.data.toList (k + 2) = 64) (c3 : Al.oB (Al.bt s.data.toList (k + 3)) = true) (c4 : ¬ Al.bt s.data.toList (k + 4) = 59) :
    Calls Try.prog 90 #[.string s, .int .i64 k] w fun e w' => e = .returned (.tuple #[.int .i64 ((Al.refStmt s.data.toList k).1 : Nat), .bool (Al.refStmt s.data.toList k).2]) ∧ w' = w := by
  have HF : Hid (Al.refStmt s.data.toList k = (k + 4, false)) := by simp [Hid, Al.refStmt, c0, c1, c2, c3, c4]
  have l00 : leftJ s (k : Int) = (k : Int) + 1 ∧ leftB s (k : Int) = true := by
    have P00 : (k : Int) = (((k) : Nat) : Int) := by omega
    have Q00 : leftP s.data.toList k = (k + 1, true) := by simp [leftP, c0, c1]
    rw [P00, leftJ_nat, leftB_nat, Q00]
    exact ⟨by simp, rfl⟩
  obtain ⟨lj00, lb00⟩ := l00
  have f00 : 0 ≤ varI (btI s (k : Int)) := by rw [(show btI s (k : Int) = Al.bt s.data.toList k from btI_nat s k)]; exact var_yes c0
  have f10 : btI s ((k : Int) + 1) = 61 := by rw [(show btI s ((k : Int) + 1) = Al.bt s.data.toList (k + 1) from btI_add s k 1)]; omega
  have f20 : btI s ((k : Int) + 2) = 64 := by rw [(show btI s ((k : Int) + 2) = Al.bt s.data.toList (k + 2) from btI_add s k 2)]; omega
  have f21 : btI s ((k : Int) + 1 + 1) = 64 := by rw [(show btI s ((k : Int) + 1 + 1) = Al.bt s.data.toList (k + 2) from by rw [show ((k : Int) + 1 + 1) = (k : Int) + ((2 : Nat) : Int) from by omega]; exact btI_add s k 2)]; omega
  have f30 : 0 ≤ siteI (btI s ((k : Int) + 3)) := by rw [(show btI s ((k : Int) + 3) = Al.bt s.data.toList (k + 3) from btI_add s k 3)]; exact site_yes c3
  have f31 : 0 ≤ siteI (btI s ((k : Int) + 1 + 1 + 1)) := by rw [(show btI s ((k : Int) + 1 + 1 + 1) = Al.bt s.data.toList (k + 3) from by rw [show ((k : Int) + 1 + 1 + 1) = (k : Int) + ((3 : Nat) : Int) from by omega]; exact btI_add s k 3)]; exact site_yes c3
  have f32 : 0 ≤ siteI (btI s ((k : Int) + 2 + 1)) := by rw [(show btI s ((k : Int) + 2 + 1) = Al.bt s.data.toList (k + 3) from by rw [show ((k : Int) + 2 + 1) = (k : Int) + ((3 : Nat) : Int) from by omega]; exact btI_add s k 3)]; exact site_yes c3
  have f40 : ¬ btI s ((k : Int) + 4) = 59 := by rw [(show btI s ((k : Int) + 4) = Al.bt s.data.toList (k + 4) from btI_add s k 4)]; omega
  have f41 : ¬ btI s ((k : Int) + 3 + 1) = 59 := by rw [(show btI s ((k : Int) + 3 + 1) = Al.bt s.data.toList (k + 4) from by rw [show ((k : Int) + 3 + 1) = (k : Int) + ((4 : Nat) : Int) from by omega]; exact btI_add s k 4)]; omega
  have f42 : ¬ btI s ((k : Int) + 1 + 1 + 2) = 59 := by rw [(show btI s ((k : Int) + 1 + 1 + 2) = Al.bt s.data.toList (k + 4) from by rw [show ((k : Int) + 1 + 1 + 2) = (k : Int) + ((4 : Nat) : Int) from by omega]; exact btI_add s k 4)]; omega
  have f43 : ¬ btI s ((k : Int) + 2 + 2) = 59 := by rw [(show btI s ((k : Int) + 2 + 2) = Al.bt s.data.toList (k + 4) from by rw [show ((k : Int) + 2 + 2) = (k : Int) + ((4 : Nat) : Int) from by omega]; exact btI_add s k 4)]; omega
  clear c0 c1 c2 c3 c4
  have g0 : ((k : Int) + 1 == (k : Int) + 3) = false := beq_eq_false_iff_ne.2 (by omega)
  go_enter Try.func90, Try.ntmps90
  go_wp2_with (first | (go_at_call 102; refine (at_any _ _ _ (by omega)).mono ?_; rintro e w' ⟨rfl, rfl⟩) | (go_at_call 61; refine (Var_any _ _ (btI_ge _ _) (btI_le _ _)).mono ?_; rintro e w' ⟨rfl, rfl⟩) | (go_at_call 57; refine (Field_any _ _ (btI_ge _ _) (btI_le _ _)).mono ?_; rintro e w' ⟨rfl, rfl⟩) | (go_at_call 62; refine (Site_any _ _ (btI_ge _ _) (btI_le _ _)).mono ?_; rintro e w' ⟨rfl, rfl⟩) | (go_at_call 101; refine (left_any _ _ _ (by omega) (by omega)).mono ?_; rintro e w' ⟨rfl, rfl⟩))
  go_ret2
  exact ⟨by simp [HF.out]; try omega, rfl⟩
set_option maxHeartbeats 400000 in
theorem Stmt_j (s : ByteArray) (k : Nat) (w : World) (_h1 : (k : Int) ≤ 1000000) (c0 : Al.vB (Al.bt s.data.toList k) = true) (c1 : Al.bt s.data.toList (k + 1) = 61) (c2 : Al.bt s.data.toList (k + 2) = 64) (c3 : Al.oB (Al.bt s.data.toList (k + 3)) = true) (c4 : Al.bt s.data.toList (k + 4) = 59) :
    Calls Try.prog 90 #[.string s, .int .i64 k] w fun e w' => e = .returned (.tuple #[.int .i64 ((Al.refStmt s.data.toList k).1 : Nat), .bool (Al.refStmt s.data.toList k).2]) ∧ w' = w := by
  have HF : Hid (Al.refStmt s.data.toList k = (k + 5, true)) := by simp [Hid, Al.refStmt, c0, c1, c2, c3, c4]
  have l00 : leftJ s (k : Int) = (k : Int) + 1 ∧ leftB s (k : Int) = true := by
    have P00 : (k : Int) = (((k) : Nat) : Int) := by omega
    have Q00 : leftP s.data.toList k = (k + 1, true) := by simp [leftP, c0, c1]
    rw [P00, leftJ_nat, leftB_nat, Q00]
    exact ⟨by simp, rfl⟩
  obtain ⟨lj00, lb00⟩ := l00
  have f00 : 0 ≤ varI (btI s (k : Int)) := by rw [(show btI s (k : Int) = Al.bt s.data.toList k from btI_nat s k)]; exact var_yes c0
  have f10 : btI s ((k : Int) + 1) = 61 := by rw [(show btI s ((k : Int) + 1) = Al.bt s.data.toList (k + 1) from btI_add s k 1)]; omega
  have f20 : btI s ((k : Int) + 2) = 64 := by rw [(show btI s ((k : Int) + 2) = Al.bt s.data.toList (k + 2) from btI_add s k 2)]; omega
  have f21 : btI s ((k : Int) + 1 + 1) = 64 := by rw [(show btI s ((k : Int) + 1 + 1) = Al.bt s.data.toList (k + 2) from by rw [show ((k : Int) + 1 + 1) = (k : Int) + ((2 : Nat) : Int) from by omega]; exact btI_add s k 2)]; omega
  have f30 : 0 ≤ siteI (btI s ((k : Int) + 3)) := by rw [(show btI s ((k : Int) + 3) = Al.bt s.data.toList (k + 3) from btI_add s k 3)]; exact site_yes c3
  have f31 : 0 ≤ siteI (btI s ((k : Int) + 1 + 1 + 1)) := by rw [(show btI s ((k : Int) + 1 + 1 + 1) = Al.bt s.data.toList (k + 3) from by rw [show ((k : Int) + 1 + 1 + 1) = (k : Int) + ((3 : Nat) : Int) from by omega]; exact btI_add s k 3)]; exact site_yes c3
  have f32 : 0 ≤ siteI (btI s ((k : Int) + 2 + 1)) := by rw [(show btI s ((k : Int) + 2 + 1) = Al.bt s.data.toList (k + 3) from by rw [show ((k : Int) + 2 + 1) = (k : Int) + ((3 : Nat) : Int) from by omega]; exact btI_add s k 3)]; exact site_yes c3
  have f40 : btI s ((k : Int) + 4) = 59 := by rw [(show btI s ((k : Int) + 4) = Al.bt s.data.toList (k + 4) from btI_add s k 4)]; omega
  have f41 : btI s ((k : Int) + 3 + 1) = 59 := by rw [(show btI s ((k : Int) + 3 + 1) = Al.bt s.data.toList (k + 4) from by rw [show ((k : Int) + 3 + 1) = (k : Int) + ((4 : Nat) : Int) from by omega]; exact btI_add s k 4)]; omega
  have f42 : btI s ((k : Int) + 1 + 1 + 2) = 59 := by rw [(show btI s ((k : Int) + 1 + 1 + 2) = Al.bt s.data.toList (k + 4) from by rw [show ((k : Int) + 1 + 1 + 2) = (k : Int) + ((4 : Nat) : Int) from by omega]; exact btI_add s k 4)]; omega
  have f43 : btI s ((k : Int) + 2 + 2) = 59 := by rw [(show btI s ((k : Int) + 2 + 2) = Al.bt s.data.toList (k + 4) from by rw [show ((k : Int) + 2 + 2) = (k : Int) + ((4 : Nat) : Int) from by omega]; exact btI_add s k 4)]; omega
  clear c0 c1 c2 c3 c4
  have g0 : ((k : Int) + 1 == (k : Int) + 3) = false := beq_eq_false_iff_ne.2 (by omega)
  go_enter Try.func90, Try.ntmps90
  go_wp2_with (first | (go_at_call 102; refine (at_any _ _ _ (by omega)).mono ?_; rintro e w' ⟨rfl, rfl⟩) | (go_at_call 61; refine (Var_any _ _ (btI_ge _ _) (btI_le _ _)).mono ?_; rintro e w' ⟨rfl, rfl⟩) | (go_at_call 57; refine (Field_any _ _ (btI_ge _ _) (btI_le _ _)).mono ?_; rintro e w' ⟨rfl, rfl⟩) | (go_at_call 62; refine (Site_any _ _ (btI_ge _ _) (btI_le _ _)).mono ?_; rintro e w' ⟨rfl, rfl⟩) | (go_at_call 101; refine (left_any _ _ _ (by omega) (by omega)).mono ?_; rintro e w' ⟨rfl, rfl⟩))
  go_ret2
  exact ⟨by simp [HF.out]; try omega, rfl⟩
set_option maxHeartbeats 400000 in
theorem Stmt_k (s : ByteArray) (k : Nat) (w : World) (_h1 : (k : Int) ≤ 1000000) (c0 : Al.vB (Al.bt s.data.toList k) = true) (c1 : Al.bt s.data.toList (k + 1) = 61) (c2 : ¬ Al.bt s.data.toList (k + 2) = 64) (c3 : ¬ Al.vB (Al.bt s.data.toList (k + 2)) = true) :
    Calls Try.prog 90 #[.string s, .int .i64 k] w fun e w' => e = .returned (.tuple #[.int .i64 ((Al.refStmt s.data.toList k).1 : Nat), .bool (Al.refStmt s.data.toList k).2]) ∧ w' = w := by
  have HF : Hid (Al.refStmt s.data.toList k = (k + 2, false)) := by simp [Hid, Al.refStmt, c0, c1, c2, c3]
  have l00 : leftJ s (k : Int) = (k : Int) + 1 ∧ leftB s (k : Int) = true := by
    have P00 : (k : Int) = (((k) : Nat) : Int) := by omega
    have Q00 : leftP s.data.toList k = (k + 1, true) := by simp [leftP, c0, c1]
    rw [P00, leftJ_nat, leftB_nat, Q00]
    exact ⟨by simp, rfl⟩
  obtain ⟨lj00, lb00⟩ := l00
  have l20 : leftJ s ((k : Int) + 2) = (k : Int) + 2 ∧ leftB s ((k : Int) + 2) = false := by
    have P20 : ((k : Int) + 2) = (((k + 2) : Nat) : Int) := by omega
    have Q20 : leftP s.data.toList (k + 2) = (k + 2, false) := by simp [leftP, c3]
    rw [P20, leftJ_nat, leftB_nat, Q20]
    exact ⟨by simp, rfl⟩
  obtain ⟨lj20, lb20⟩ := l20
  have l21 : leftJ s ((k : Int) + 1 + 1) = (k : Int) + 2 ∧ leftB s ((k : Int) + 1 + 1) = false := by
    have P21 : ((k : Int) + 1 + 1) = (((k + 2) : Nat) : Int) := by omega
    have Q21 : leftP s.data.toList (k + 2) = (k + 2, false) := by simp [leftP, c3]
    rw [P21, leftJ_nat, leftB_nat, Q21]
    exact ⟨by simp, rfl⟩
  obtain ⟨lj21, lb21⟩ := l21
  have f00 : 0 ≤ varI (btI s (k : Int)) := by rw [(show btI s (k : Int) = Al.bt s.data.toList k from btI_nat s k)]; exact var_yes c0
  have f10 : btI s ((k : Int) + 1) = 61 := by rw [(show btI s ((k : Int) + 1) = Al.bt s.data.toList (k + 1) from btI_add s k 1)]; omega
  have f20 : ¬ btI s ((k : Int) + 2) = 64 := by rw [(show btI s ((k : Int) + 2) = Al.bt s.data.toList (k + 2) from btI_add s k 2)]; omega
  have f21 : ¬ btI s ((k : Int) + 1 + 1) = 64 := by rw [(show btI s ((k : Int) + 1 + 1) = Al.bt s.data.toList (k + 2) from by rw [show ((k : Int) + 1 + 1) = (k : Int) + ((2 : Nat) : Int) from by omega]; exact btI_add s k 2)]; omega
  have f30 : varI (btI s ((k : Int) + 2)) < 0 := by rw [(show btI s ((k : Int) + 2) = Al.bt s.data.toList (k + 2) from btI_add s k 2)]; exact var_no c3
  have f31 : varI (btI s ((k : Int) + 1 + 1)) < 0 := by rw [(show btI s ((k : Int) + 1 + 1) = Al.bt s.data.toList (k + 2) from by rw [show ((k : Int) + 1 + 1) = (k : Int) + ((2 : Nat) : Int) from by omega]; exact btI_add s k 2)]; exact var_no c3
  clear c0 c1 c2 c3
  have g0 : ((k : Int) + 1 == (k : Int) + 3) = false := beq_eq_false_iff_ne.2 (by omega)
  go_enter Try.func90, Try.ntmps90
  go_wp2_with (first | (go_at_call 102; refine (at_any _ _ _ (by omega)).mono ?_; rintro e w' ⟨rfl, rfl⟩) | (go_at_call 61; refine (Var_any _ _ (btI_ge _ _) (btI_le _ _)).mono ?_; rintro e w' ⟨rfl, rfl⟩) | (go_at_call 57; refine (Field_any _ _ (btI_ge _ _) (btI_le _ _)).mono ?_; rintro e w' ⟨rfl, rfl⟩) | (go_at_call 62; refine (Site_any _ _ (btI_ge _ _) (btI_le _ _)).mono ?_; rintro e w' ⟨rfl, rfl⟩) | (go_at_call 101; refine (left_any _ _ _ (by omega) (by omega)).mono ?_; rintro e w' ⟨rfl, rfl⟩))
  go_ret2
  exact ⟨by simp [HF.out]; try omega, rfl⟩
set_option maxHeartbeats 400000 in
theorem Stmt_l (s : ByteArray) (k : Nat) (w : World) (_h1 : (k : Int) ≤ 1000000) (c0 : Al.vB (Al.bt s.data.toList k) = true) (c1 : Al.bt s.data.toList (k + 1) = 61) (c2 : ¬ Al.bt s.data.toList (k + 2) = 64) (c3 : Al.vB (Al.bt s.data.toList (k + 2)) = true) (c4 : Al.bt s.data.toList (k + 3) = 46) (c5 : ¬ Al.fB (Al.bt s.data.toList (k + 4)) = true) :
    Calls Try.prog 90 #[.string s, .int .i64 k] w fun e w' => e = .returned (.tuple #[.int .i64 ((Al.refStmt s.data.toList k).1 : Nat), .bool (Al.refStmt s.data.toList k).2]) ∧ w' = w := by
  have HF : Hid (Al.refStmt s.data.toList k = (k + 4, false)) := by simp [Hid, Al.refStmt, c0, c1, c2, c3, c4, c5]
  have l00 : leftJ s (k : Int) = (k : Int) + 1 ∧ leftB s (k : Int) = true := by
    have P00 : (k : Int) = (((k) : Nat) : Int) := by omega
    have Q00 : leftP s.data.toList k = (k + 1, true) := by simp [leftP, c0, c1]
    rw [P00, leftJ_nat, leftB_nat, Q00]
    exact ⟨by simp, rfl⟩
  obtain ⟨lj00, lb00⟩ := l00
  have l20 : leftJ s ((k : Int) + 2) = (k : Int) + 4 ∧ leftB s ((k : Int) + 2) = false := by
    have P20 : ((k : Int) + 2) = (((k + 2) : Nat) : Int) := by omega
    have Q20 : leftP s.data.toList (k + 2) = (k + 4, false) := by simp [leftP, c3, c4, c5]
    rw [P20, leftJ_nat, leftB_nat, Q20]
    exact ⟨by simp, rfl⟩
  obtain ⟨lj20, lb20⟩ := l20
  have l21 : leftJ s ((k : Int) + 1 + 1) = (k : Int) + 4 ∧ leftB s ((k : Int) + 1 + 1) = false := by
    have P21 : ((k : Int) + 1 + 1) = (((k + 2) : Nat) : Int) := by omega
    have Q21 : leftP s.data.toList (k + 2) = (k + 4, false) := by simp [leftP, c3, c4, c5]
    rw [P21, leftJ_nat, leftB_nat, Q21]
    exact ⟨by simp, rfl⟩
  obtain ⟨lj21, lb21⟩ := l21
  have f00 : 0 ≤ varI (btI s (k : Int)) := by rw [(show btI s (k : Int) = Al.bt s.data.toList k from btI_nat s k)]; exact var_yes c0
  have f10 : btI s ((k : Int) + 1) = 61 := by rw [(show btI s ((k : Int) + 1) = Al.bt s.data.toList (k + 1) from btI_add s k 1)]; omega
  have f20 : ¬ btI s ((k : Int) + 2) = 64 := by rw [(show btI s ((k : Int) + 2) = Al.bt s.data.toList (k + 2) from btI_add s k 2)]; omega
  have f21 : ¬ btI s ((k : Int) + 1 + 1) = 64 := by rw [(show btI s ((k : Int) + 1 + 1) = Al.bt s.data.toList (k + 2) from by rw [show ((k : Int) + 1 + 1) = (k : Int) + ((2 : Nat) : Int) from by omega]; exact btI_add s k 2)]; omega
  have f30 : 0 ≤ varI (btI s ((k : Int) + 2)) := by rw [(show btI s ((k : Int) + 2) = Al.bt s.data.toList (k + 2) from btI_add s k 2)]; exact var_yes c3
  have f31 : 0 ≤ varI (btI s ((k : Int) + 1 + 1)) := by rw [(show btI s ((k : Int) + 1 + 1) = Al.bt s.data.toList (k + 2) from by rw [show ((k : Int) + 1 + 1) = (k : Int) + ((2 : Nat) : Int) from by omega]; exact btI_add s k 2)]; exact var_yes c3
  have f40 : btI s ((k : Int) + 3) = 46 := by rw [(show btI s ((k : Int) + 3) = Al.bt s.data.toList (k + 3) from btI_add s k 3)]; omega
  have f41 : btI s ((k : Int) + 1 + 1 + 1) = 46 := by rw [(show btI s ((k : Int) + 1 + 1 + 1) = Al.bt s.data.toList (k + 3) from by rw [show ((k : Int) + 1 + 1 + 1) = (k : Int) + ((3 : Nat) : Int) from by omega]; exact btI_add s k 3)]; omega
  have f42 : btI s ((k : Int) + 2 + 1) = 46 := by rw [(show btI s ((k : Int) + 2 + 1) = Al.bt s.data.toList (k + 3) from by rw [show ((k : Int) + 2 + 1) = (k : Int) + ((3 : Nat) : Int) from by omega]; exact btI_add s k 3)]; omega
  have f50 : fieldI (btI s ((k : Int) + 4)) < 0 := by rw [(show btI s ((k : Int) + 4) = Al.bt s.data.toList (k + 4) from btI_add s k 4)]; exact field_no c5
  have f51 : fieldI (btI s ((k : Int) + 3 + 1)) < 0 := by rw [(show btI s ((k : Int) + 3 + 1) = Al.bt s.data.toList (k + 4) from by rw [show ((k : Int) + 3 + 1) = (k : Int) + ((4 : Nat) : Int) from by omega]; exact btI_add s k 4)]; exact field_no c5
  have f52 : fieldI (btI s ((k : Int) + 1 + 1 + 2)) < 0 := by rw [(show btI s ((k : Int) + 1 + 1 + 2) = Al.bt s.data.toList (k + 4) from by rw [show ((k : Int) + 1 + 1 + 2) = (k : Int) + ((4 : Nat) : Int) from by omega]; exact btI_add s k 4)]; exact field_no c5
  have f53 : fieldI (btI s ((k : Int) + 2 + 2)) < 0 := by rw [(show btI s ((k : Int) + 2 + 2) = Al.bt s.data.toList (k + 4) from by rw [show ((k : Int) + 2 + 2) = (k : Int) + ((4 : Nat) : Int) from by omega]; exact btI_add s k 4)]; exact field_no c5
  clear c0 c1 c2 c3 c4 c5
  have g0 : ((k : Int) + 1 == (k : Int) + 3) = false := beq_eq_false_iff_ne.2 (by omega)
  go_enter Try.func90, Try.ntmps90
  go_wp2_with (first | (go_at_call 102; refine (at_any _ _ _ (by omega)).mono ?_; rintro e w' ⟨rfl, rfl⟩) | (go_at_call 61; refine (Var_any _ _ (btI_ge _ _) (btI_le _ _)).mono ?_; rintro e w' ⟨rfl, rfl⟩) | (go_at_call 57; refine (Field_any _ _ (btI_ge _ _) (btI_le _ _)).mono ?_; rintro e w' ⟨rfl, rfl⟩) | (go_at_call 62; refine (Site_any _ _ (btI_ge _ _) (btI_le _ _)).mono ?_; rintro e w' ⟨rfl, rfl⟩) | (go_at_call 101; refine (left_any _ _ _ (by omega) (by omega)).mono ?_; rintro e w' ⟨rfl, rfl⟩))
  go_ret2
  exact ⟨by simp [HF.out]; try omega, rfl⟩
set_option maxHeartbeats 400000 in
theorem Stmt_m (s : ByteArray) (k : Nat) (w : World) (_h1 : (k : Int) ≤ 1000000) (c0 : Al.vB (Al.bt s.data.toList k) = true) (c1 : Al.bt s.data.toList (k + 1) = 61) (c2 : ¬ Al.bt s.data.toList (k + 2) = 64) (c3 : Al.vB (Al.bt s.data.toList (k + 2)) = true) (c4 : Al.bt s.data.toList (k + 3) = 46) (c5 : Al.fB (Al.bt s.data.toList (k + 4)) = true) (c6 : ¬ Al.bt s.data.toList (k + 5) = 59) :
    Calls Try.prog 90 #[.string s, .int .i64 k] w fun e w' => e = .returned (.tuple #[.int .i64 ((Al.refStmt s.data.toList k).1 : Nat), .bool (Al.refStmt s.data.toList k).2]) ∧ w' = w := by
  have HF : Hid (Al.refStmt s.data.toList k = (k + 5, false)) := by simp [Hid, Al.refStmt, c0, c1, c2, c3, c4, c5, c6]
  have l00 : leftJ s (k : Int) = (k : Int) + 1 ∧ leftB s (k : Int) = true := by
    have P00 : (k : Int) = (((k) : Nat) : Int) := by omega
    have Q00 : leftP s.data.toList k = (k + 1, true) := by simp [leftP, c0, c1]
    rw [P00, leftJ_nat, leftB_nat, Q00]
    exact ⟨by simp, rfl⟩
  obtain ⟨lj00, lb00⟩ := l00
  have l20 : leftJ s ((k : Int) + 2) = (k : Int) + 5 ∧ leftB s ((k : Int) + 2) = true := by
    have P20 : ((k : Int) + 2) = (((k + 2) : Nat) : Int) := by omega
    have Q20 : leftP s.data.toList (k + 2) = (k + 5, true) := by simp [leftP, c3, c4, c5]
    rw [P20, leftJ_nat, leftB_nat, Q20]
    exact ⟨by simp, rfl⟩
  obtain ⟨lj20, lb20⟩ := l20
  have l21 : leftJ s ((k : Int) + 1 + 1) = (k : Int) + 5 ∧ leftB s ((k : Int) + 1 + 1) = true := by
    have P21 : ((k : Int) + 1 + 1) = (((k + 2) : Nat) : Int) := by omega
    have Q21 : leftP s.data.toList (k + 2) = (k + 5, true) := by simp [leftP, c3, c4, c5]
    rw [P21, leftJ_nat, leftB_nat, Q21]
    exact ⟨by simp, rfl⟩
  obtain ⟨lj21, lb21⟩ := l21
  have f00 : 0 ≤ varI (btI s (k : Int)) := by rw [(show btI s (k : Int) = Al.bt s.data.toList k from btI_nat s k)]; exact var_yes c0
  have f10 : btI s ((k : Int) + 1) = 61 := by rw [(show btI s ((k : Int) + 1) = Al.bt s.data.toList (k + 1) from btI_add s k 1)]; omega
  have f20 : ¬ btI s ((k : Int) + 2) = 64 := by rw [(show btI s ((k : Int) + 2) = Al.bt s.data.toList (k + 2) from btI_add s k 2)]; omega
  have f21 : ¬ btI s ((k : Int) + 1 + 1) = 64 := by rw [(show btI s ((k : Int) + 1 + 1) = Al.bt s.data.toList (k + 2) from by rw [show ((k : Int) + 1 + 1) = (k : Int) + ((2 : Nat) : Int) from by omega]; exact btI_add s k 2)]; omega
  have f30 : 0 ≤ varI (btI s ((k : Int) + 2)) := by rw [(show btI s ((k : Int) + 2) = Al.bt s.data.toList (k + 2) from btI_add s k 2)]; exact var_yes c3
  have f31 : 0 ≤ varI (btI s ((k : Int) + 1 + 1)) := by rw [(show btI s ((k : Int) + 1 + 1) = Al.bt s.data.toList (k + 2) from by rw [show ((k : Int) + 1 + 1) = (k : Int) + ((2 : Nat) : Int) from by omega]; exact btI_add s k 2)]; exact var_yes c3
  have f40 : btI s ((k : Int) + 3) = 46 := by rw [(show btI s ((k : Int) + 3) = Al.bt s.data.toList (k + 3) from btI_add s k 3)]; omega
  have f41 : btI s ((k : Int) + 1 + 1 + 1) = 46 := by rw [(show btI s ((k : Int) + 1 + 1 + 1) = Al.bt s.data.toList (k + 3) from by rw [show ((k : Int) + 1 + 1 + 1) = (k : Int) + ((3 : Nat) : Int) from by omega]; exact btI_add s k 3)]; omega
  have f42 : btI s ((k : Int) + 2 + 1) = 46 := by rw [(show btI s ((k : Int) + 2 + 1) = Al.bt s.data.toList (k + 3) from by rw [show ((k : Int) + 2 + 1) = (k : Int) + ((3 : Nat) : Int) from by omega]; exact btI_add s k 3)]; omega
  have f50 : 0 ≤ fieldI (btI s ((k : Int) + 4)) := by rw [(show btI s ((k : Int) + 4) = Al.bt s.data.toList (k + 4) from btI_add s k 4)]; exact field_yes c5
  have f51 : 0 ≤ fieldI (btI s ((k : Int) + 3 + 1)) := by rw [(show btI s ((k : Int) + 3 + 1) = Al.bt s.data.toList (k + 4) from by rw [show ((k : Int) + 3 + 1) = (k : Int) + ((4 : Nat) : Int) from by omega]; exact btI_add s k 4)]; exact field_yes c5
  have f52 : 0 ≤ fieldI (btI s ((k : Int) + 1 + 1 + 2)) := by rw [(show btI s ((k : Int) + 1 + 1 + 2) = Al.bt s.data.toList (k + 4) from by rw [show ((k : Int) + 1 + 1 + 2) = (k : Int) + ((4 : Nat) : Int) from by omega]; exact btI_add s k 4)]; exact field_yes c5
  have f53 : 0 ≤ fieldI (btI s ((k : Int) + 2 + 2)) := by rw [(show btI s ((k : Int) + 2 + 2) = Al.bt s.data.toList (k + 4) from by rw [show ((k : Int) + 2 + 2) = (k : Int) + ((4 : Nat) : Int) from by omega]; exact btI_add s k 4)]; exact field_yes c5
  have f60 : ¬ btI s ((k : Int) + 5) = 59 := by rw [(show btI s ((k : Int) + 5) = Al.bt s.data.toList (k + 5) from btI_add s k 5)]; omega
  have f61 : ¬ btI s ((k : Int) + 3 + 1 + 1) = 59 := by rw [(show btI s ((k : Int) + 3 + 1 + 1) = Al.bt s.data.toList (k + 5) from by rw [show ((k : Int) + 3 + 1 + 1) = (k : Int) + ((5 : Nat) : Int) from by omega]; exact btI_add s k 5)]; omega
  have f62 : ¬ btI s ((k : Int) + 4 + 1) = 59 := by rw [(show btI s ((k : Int) + 4 + 1) = Al.bt s.data.toList (k + 5) from by rw [show ((k : Int) + 4 + 1) = (k : Int) + ((5 : Nat) : Int) from by omega]; exact btI_add s k 5)]; omega
  clear c0 c1 c2 c3 c4 c5 c6
  have g0 : ((k : Int) + 1 == (k : Int) + 3) = false := beq_eq_false_iff_ne.2 (by omega)
  go_enter Try.func90, Try.ntmps90
  go_wp2_with (first | (go_at_call 102; refine (at_any _ _ _ (by omega)).mono ?_; rintro e w' ⟨rfl, rfl⟩) | (go_at_call 61; refine (Var_any _ _ (btI_ge _ _) (btI_le _ _)).mono ?_; rintro e w' ⟨rfl, rfl⟩) | (go_at_call 57; refine (Field_any _ _ (btI_ge _ _) (btI_le _ _)).mono ?_; rintro e w' ⟨rfl, rfl⟩) | (go_at_call 62; refine (Site_any _ _ (btI_ge _ _) (btI_le _ _)).mono ?_; rintro e w' ⟨rfl, rfl⟩) | (go_at_call 101; refine (left_any _ _ _ (by omega) (by omega)).mono ?_; rintro e w' ⟨rfl, rfl⟩))
  go_ret2
  exact ⟨by simp [HF.out]; try omega, rfl⟩
set_option maxHeartbeats 400000 in
theorem Stmt_n (s : ByteArray) (k : Nat) (w : World) (_h1 : (k : Int) ≤ 1000000) (c0 : Al.vB (Al.bt s.data.toList k) = true) (c1 : Al.bt s.data.toList (k + 1) = 61) (c2 : ¬ Al.bt s.data.toList (k + 2) = 64) (c3 : Al.vB (Al.bt s.data.toList (k + 2)) = true) (c4 : Al.bt s.data.toList (k + 3) = 46) (c5 : Al.fB (Al.bt s.data.toList (k + 4)) = true) (c6 : Al.bt s.data.toList (k + 5) = 59) :
    Calls Try.prog 90 #[.string s, .int .i64 k] w fun e w' => e = .returned (.tuple #[.int .i64 ((Al.refStmt s.data.toList k).1 : Nat), .bool (Al.refStmt s.data.toList k).2]) ∧ w' = w := by
  have HF : Hid (Al.refStmt s.data.toList k = (k + 6, true)) := by simp [Hid, Al.refStmt, c0, c1, c2, c3, c4, c5, c6]
  have l00 : leftJ s (k : Int) = (k : Int) + 1 ∧ leftB s (k : Int) = true := by
    have P00 : (k : Int) = (((k) : Nat) : Int) := by omega
    have Q00 : leftP s.data.toList k = (k + 1, true) := by simp [leftP, c0, c1]
    rw [P00, leftJ_nat, leftB_nat, Q00]
    exact ⟨by simp, rfl⟩
  obtain ⟨lj00, lb00⟩ := l00
  have l20 : leftJ s ((k : Int) + 2) = (k : Int) + 5 ∧ leftB s ((k : Int) + 2) = true := by
    have P20 : ((k : Int) + 2) = (((k + 2) : Nat) : Int) := by omega
    have Q20 : leftP s.data.toList (k + 2) = (k + 5, true) := by simp [leftP, c3, c4, c5]
    rw [P20, leftJ_nat, leftB_nat, Q20]
    exact ⟨by simp, rfl⟩
  obtain ⟨lj20, lb20⟩ := l20
  have l21 : leftJ s ((k : Int) + 1 + 1) = (k : Int) + 5 ∧ leftB s ((k : Int) + 1 + 1) = true := by
    have P21 : ((k : Int) + 1 + 1) = (((k + 2) : Nat) : Int) := by omega
    have Q21 : leftP s.data.toList (k + 2) = (k + 5, true) := by simp [leftP, c3, c4, c5]
    rw [P21, leftJ_nat, leftB_nat, Q21]
    exact ⟨by simp, rfl⟩
  obtain ⟨lj21, lb21⟩ := l21
  have f00 : 0 ≤ varI (btI s (k : Int)) := by rw [(show btI s (k : Int) = Al.bt s.data.toList k from btI_nat s k)]; exact var_yes c0
  have f10 : btI s ((k : Int) + 1) = 61 := by rw [(show btI s ((k : Int) + 1) = Al.bt s.data.toList (k + 1) from btI_add s k 1)]; omega
  have f20 : ¬ btI s ((k : Int) + 2) = 64 := by rw [(show btI s ((k : Int) + 2) = Al.bt s.data.toList (k + 2) from btI_add s k 2)]; omega
  have f21 : ¬ btI s ((k : Int) + 1 + 1) = 64 := by rw [(show btI s ((k : Int) + 1 + 1) = Al.bt s.data.toList (k + 2) from by rw [show ((k : Int) + 1 + 1) = (k : Int) + ((2 : Nat) : Int) from by omega]; exact btI_add s k 2)]; omega
  have f30 : 0 ≤ varI (btI s ((k : Int) + 2)) := by rw [(show btI s ((k : Int) + 2) = Al.bt s.data.toList (k + 2) from btI_add s k 2)]; exact var_yes c3
  have f31 : 0 ≤ varI (btI s ((k : Int) + 1 + 1)) := by rw [(show btI s ((k : Int) + 1 + 1) = Al.bt s.data.toList (k + 2) from by rw [show ((k : Int) + 1 + 1) = (k : Int) + ((2 : Nat) : Int) from by omega]; exact btI_add s k 2)]; exact var_yes c3
  have f40 : btI s ((k : Int) + 3) = 46 := by rw [(show btI s ((k : Int) + 3) = Al.bt s.data.toList (k + 3) from btI_add s k 3)]; omega
  have f41 : btI s ((k : Int) + 1 + 1 + 1) = 46 := by rw [(show btI s ((k : Int) + 1 + 1 + 1) = Al.bt s.data.toList (k + 3) from by rw [show ((k : Int) + 1 + 1 + 1) = (k : Int) + ((3 : Nat) : Int) from by omega]; exact btI_add s k 3)]; omega
  have f42 : btI s ((k : Int) + 2 + 1) = 46 := by rw [(show btI s ((k : Int) + 2 + 1) = Al.bt s.data.toList (k + 3) from by rw [show ((k : Int) + 2 + 1) = (k : Int) + ((3 : Nat) : Int) from by omega]; exact btI_add s k 3)]; omega
  have f50 : 0 ≤ fieldI (btI s ((k : Int) + 4)) := by rw [(show btI s ((k : Int) + 4) = Al.bt s.data.toList (k + 4) from btI_add s k 4)]; exact field_yes c5
  have f51 : 0 ≤ fieldI (btI s ((k : Int) + 3 + 1)) := by rw [(show btI s ((k : Int) + 3 + 1) = Al.bt s.data.toList (k + 4) from by rw [show ((k : Int) + 3 + 1) = (k : Int) + ((4 : Nat) : Int) from by omega]; exact btI_add s k 4)]; exact field_yes c5
  have f52 : 0 ≤ fieldI (btI s ((k : Int) + 1 + 1 + 2)) := by rw [(show btI s ((k : Int) + 1 + 1 + 2) = Al.bt s.data.toList (k + 4) from by rw [show ((k : Int) + 1 + 1 + 2) = (k : Int) + ((4 : Nat) : Int) from by omega]; exact btI_add s k 4)]; exact field_yes c5
  have f53 : 0 ≤ fieldI (btI s ((k : Int) + 2 + 2)) := by rw [(show btI s ((k : Int) + 2 + 2) = Al.bt s.data.toList (k + 4) from by rw [show ((k : Int) + 2 + 2) = (k : Int) + ((4 : Nat) : Int) from by omega]; exact btI_add s k 4)]; exact field_yes c5
  have f60 : btI s ((k : Int) + 5) = 59 := by rw [(show btI s ((k : Int) + 5) = Al.bt s.data.toList (k + 5) from btI_add s k 5)]; omega
  have f61 : btI s ((k : Int) + 3 + 1 + 1) = 59 := by rw [(show btI s ((k : Int) + 3 + 1 + 1) = Al.bt s.data.toList (k + 5) from by rw [show ((k : Int) + 3 + 1 + 1) = (k : Int) + ((5 : Nat) : Int) from by omega]; exact btI_add s k 5)]; omega
  have f62 : btI s ((k : Int) + 4 + 1) = 59 := by rw [(show btI s ((k : Int) + 4 + 1) = Al.bt s.data.toList (k + 5) from by rw [show ((k : Int) + 4 + 1) = (k : Int) + ((5 : Nat) : Int) from by omega]; exact btI_add s k 5)]; omega
  clear c0 c1 c2 c3 c4 c5 c6
  have g0 : ((k : Int) + 1 == (k : Int) + 3) = false := beq_eq_false_iff_ne.2 (by omega)
  go_enter Try.func90, Try.ntmps90
  go_wp2_with (first | (go_at_call 102; refine (at_any _ _ _ (by omega)).mono ?_; rintro e w' ⟨rfl, rfl⟩) | (go_at_call 61; refine (Var_any _ _ (btI_ge _ _) (btI_le _ _)).mono ?_; rintro e w' ⟨rfl, rfl⟩) | (go_at_call 57; refine (Field_any _ _ (btI_ge _ _) (btI_le _ _)).mono ?_; rintro e w' ⟨rfl, rfl⟩) | (go_at_call 62; refine (Site_any _ _ (btI_ge _ _) (btI_le _ _)).mono ?_; rintro e w' ⟨rfl, rfl⟩) | (go_at_call 101; refine (left_any _ _ _ (by omega) (by omega)).mono ?_; rintro e w' ⟨rfl, rfl⟩))
  go_ret2
  exact ⟨by simp [HF.out]; try omega, rfl⟩
set_option maxHeartbeats 400000 in
theorem Stmt_o (s : ByteArray) (k : Nat) (w : World) (_h1 : (k : Int) ≤ 1000000) (c0 : Al.vB (Al.bt s.data.toList k) = true) (c1 : Al.bt s.data.toList (k + 1) = 61) (c2 : ¬ Al.bt s.data.toList (k + 2) = 64) (c3 : Al.vB (Al.bt s.data.toList (k + 2)) = true) (c4 : ¬ Al.bt s.data.toList (k + 3) = 46) (c5 : Al.bt s.data.toList (k + 3) = 59) :
    Calls Try.prog 90 #[.string s, .int .i64 k] w fun e w' => e = .returned (.tuple #[.int .i64 ((Al.refStmt s.data.toList k).1 : Nat), .bool (Al.refStmt s.data.toList k).2]) ∧ w' = w := by
  have HF : Hid (Al.refStmt s.data.toList k = (k + 4, true)) := by simp [Hid, Al.refStmt, c0, c1, c2, c3, c5]
  have l00 : leftJ s (k : Int) = (k : Int) + 1 ∧ leftB s (k : Int) = true := by
    have P00 : (k : Int) = (((k) : Nat) : Int) := by omega
    have Q00 : leftP s.data.toList k = (k + 1, true) := by simp [leftP, c0, c1]
    rw [P00, leftJ_nat, leftB_nat, Q00]
    exact ⟨by simp, rfl⟩
  obtain ⟨lj00, lb00⟩ := l00
  have l20 : leftJ s ((k : Int) + 2) = (k : Int) + 3 ∧ leftB s ((k : Int) + 2) = true := by
    have P20 : ((k : Int) + 2) = (((k + 2) : Nat) : Int) := by omega
    have Q20 : leftP s.data.toList (k + 2) = (k + 3, true) := by simp [leftP, c3, c4]
    rw [P20, leftJ_nat, leftB_nat, Q20]
    exact ⟨by simp, rfl⟩
  obtain ⟨lj20, lb20⟩ := l20
  have l21 : leftJ s ((k : Int) + 1 + 1) = (k : Int) + 3 ∧ leftB s ((k : Int) + 1 + 1) = true := by
    have P21 : ((k : Int) + 1 + 1) = (((k + 2) : Nat) : Int) := by omega
    have Q21 : leftP s.data.toList (k + 2) = (k + 3, true) := by simp [leftP, c3, c4]
    rw [P21, leftJ_nat, leftB_nat, Q21]
    exact ⟨by simp, rfl⟩
  obtain ⟨lj21, lb21⟩ := l21
  have f00 : 0 ≤ varI (btI s (k : Int)) := by rw [(show btI s (k : Int) = Al.bt s.data.toList k from btI_nat s k)]; exact var_yes c0
  have f10 : btI s ((k : Int) + 1) = 61 := by rw [(show btI s ((k : Int) + 1) = Al.bt s.data.toList (k + 1) from btI_add s k 1)]; omega
  have f20 : ¬ btI s ((k : Int) + 2) = 64 := by rw [(show btI s ((k : Int) + 2) = Al.bt s.data.toList (k + 2) from btI_add s k 2)]; omega
  have f21 : ¬ btI s ((k : Int) + 1 + 1) = 64 := by rw [(show btI s ((k : Int) + 1 + 1) = Al.bt s.data.toList (k + 2) from by rw [show ((k : Int) + 1 + 1) = (k : Int) + ((2 : Nat) : Int) from by omega]; exact btI_add s k 2)]; omega
  have f30 : 0 ≤ varI (btI s ((k : Int) + 2)) := by rw [(show btI s ((k : Int) + 2) = Al.bt s.data.toList (k + 2) from btI_add s k 2)]; exact var_yes c3
  have f31 : 0 ≤ varI (btI s ((k : Int) + 1 + 1)) := by rw [(show btI s ((k : Int) + 1 + 1) = Al.bt s.data.toList (k + 2) from by rw [show ((k : Int) + 1 + 1) = (k : Int) + ((2 : Nat) : Int) from by omega]; exact btI_add s k 2)]; exact var_yes c3
  have f40 : ¬ btI s ((k : Int) + 3) = 46 := by rw [(show btI s ((k : Int) + 3) = Al.bt s.data.toList (k + 3) from btI_add s k 3)]; omega
  have f41 : ¬ btI s ((k : Int) + 1 + 1 + 1) = 46 := by rw [(show btI s ((k : Int) + 1 + 1 + 1) = Al.bt s.data.toList (k + 3) from by rw [show ((k : Int) + 1 + 1 + 1) = (k : Int) + ((3 : Nat) : Int) from by omega]; exact btI_add s k 3)]; omega
  have f42 : ¬ btI s ((k : Int) + 2 + 1) = 46 := by rw [(show btI s ((k : Int) + 2 + 1) = Al.bt s.data.toList (k + 3) from by rw [show ((k : Int) + 2 + 1) = (k : Int) + ((3 : Nat) : Int) from by omega]; exact btI_add s k 3)]; omega
  have f50 : btI s ((k : Int) + 3) = 59 := by rw [(show btI s ((k : Int) + 3) = Al.bt s.data.toList (k + 3) from btI_add s k 3)]; omega
  have f51 : btI s ((k : Int) + 1 + 1 + 1) = 59 := by rw [(show btI s ((k : Int) + 1 + 1 + 1) = Al.bt s.data.toList (k + 3) from by rw [show ((k : Int) + 1 + 1 + 1) = (k : Int) + ((3 : Nat) : Int) from by omega]; exact btI_add s k 3)]; omega
  have f52 : btI s ((k : Int) + 2 + 1) = 59 := by rw [(show btI s ((k : Int) + 2 + 1) = Al.bt s.data.toList (k + 3) from by rw [show ((k : Int) + 2 + 1) = (k : Int) + ((3 : Nat) : Int) from by omega]; exact btI_add s k 3)]; omega
  clear c0 c1 c2 c3 c4 c5
  have g0 : ((k : Int) + 1 == (k : Int) + 3) = false := beq_eq_false_iff_ne.2 (by omega)
  go_enter Try.func90, Try.ntmps90
  go_wp2_with (first | (go_at_call 102; refine (at_any _ _ _ (by omega)).mono ?_; rintro e w' ⟨rfl, rfl⟩) | (go_at_call 61; refine (Var_any _ _ (btI_ge _ _) (btI_le _ _)).mono ?_; rintro e w' ⟨rfl, rfl⟩) | (go_at_call 57; refine (Field_any _ _ (btI_ge _ _) (btI_le _ _)).mono ?_; rintro e w' ⟨rfl, rfl⟩) | (go_at_call 62; refine (Site_any _ _ (btI_ge _ _) (btI_le _ _)).mono ?_; rintro e w' ⟨rfl, rfl⟩) | (go_at_call 101; refine (left_any _ _ _ (by omega) (by omega)).mono ?_; rintro e w' ⟨rfl, rfl⟩))
  go_ret2
  exact ⟨by simp [HF.out]; try omega, rfl⟩
set_option maxHeartbeats 400000 in
theorem Stmt_p (s : ByteArray) (k : Nat) (w : World) (_h1 : (k : Int) ≤ 1000000) (c0 : Al.vB (Al.bt s.data.toList k) = true) (c1 : Al.bt s.data.toList (k + 1) = 61) (c2 : ¬ Al.bt s.data.toList (k + 2) = 64) (c3 : Al.vB (Al.bt s.data.toList (k + 2)) = true) (c4 : ¬ Al.bt s.data.toList (k + 3) = 46) (c5 : ¬ Al.bt s.data.toList (k + 3) = 59) :
    Calls Try.prog 90 #[.string s, .int .i64 k] w fun e w' => e = .returned (.tuple #[.int .i64 ((Al.refStmt s.data.toList k).1 : Nat), .bool (Al.refStmt s.data.toList k).2]) ∧ w' = w := by
  have HF : Hid (Al.refStmt s.data.toList k = (k + 3, false)) := by simp [Hid, Al.refStmt, c0, c1, c2, c3, c4, c5]
  have l00 : leftJ s (k : Int) = (k : Int) + 1 ∧ leftB s (k : Int) = true := by
    have P00 : (k : Int) = (((k) : Nat) : Int) := by omega
    have Q00 : leftP s.data.toList k = (k + 1, true) := by simp [leftP, c0, c1]
    rw [P00, leftJ_nat, leftB_nat, Q00]
    exact ⟨by simp, rfl⟩
  obtain ⟨lj00, lb00⟩ := l00
  have l20 : leftJ s ((k : Int) + 2) = (k : Int) + 3 ∧ leftB s ((k : Int) + 2) = true := by
    have P20 : ((k : Int) + 2) = (((k + 2) : Nat) : Int) := by omega
    have Q20 : leftP s.data.toList (k + 2) = (k + 3, true) := by simp [leftP, c3, c4]
    rw [P20, leftJ_nat, leftB_nat, Q20]
    exact ⟨by simp, rfl⟩
  obtain ⟨lj20, lb20⟩ := l20
  have l21 : leftJ s ((k : Int) + 1 + 1) = (k : Int) + 3 ∧ leftB s ((k : Int) + 1 + 1) = true := by
    have P21 : ((k : Int) + 1 + 1) = (((k + 2) : Nat) : Int) := by omega
    have Q21 : leftP s.data.toList (k + 2) = (k + 3, true) := by simp [leftP, c3, c4]
    rw [P21, leftJ_nat, leftB_nat, Q21]
    exact ⟨by simp, rfl⟩
  obtain ⟨lj21, lb21⟩ := l21
  have f00 : 0 ≤ varI (btI s (k : Int)) := by rw [(show btI s (k : Int) = Al.bt s.data.toList k from btI_nat s k)]; exact var_yes c0
  have f10 : btI s ((k : Int) + 1) = 61 := by rw [(show btI s ((k : Int) + 1) = Al.bt s.data.toList (k + 1) from btI_add s k 1)]; omega
  have f20 : ¬ btI s ((k : Int) + 2) = 64 := by rw [(show btI s ((k : Int) + 2) = Al.bt s.data.toList (k + 2) from btI_add s k 2)]; omega
  have f21 : ¬ btI s ((k : Int) + 1 + 1) = 64 := by rw [(show btI s ((k : Int) + 1 + 1) = Al.bt s.data.toList (k + 2) from by rw [show ((k : Int) + 1 + 1) = (k : Int) + ((2 : Nat) : Int) from by omega]; exact btI_add s k 2)]; omega
  have f30 : 0 ≤ varI (btI s ((k : Int) + 2)) := by rw [(show btI s ((k : Int) + 2) = Al.bt s.data.toList (k + 2) from btI_add s k 2)]; exact var_yes c3
  have f31 : 0 ≤ varI (btI s ((k : Int) + 1 + 1)) := by rw [(show btI s ((k : Int) + 1 + 1) = Al.bt s.data.toList (k + 2) from by rw [show ((k : Int) + 1 + 1) = (k : Int) + ((2 : Nat) : Int) from by omega]; exact btI_add s k 2)]; exact var_yes c3
  have f40 : ¬ btI s ((k : Int) + 3) = 46 := by rw [(show btI s ((k : Int) + 3) = Al.bt s.data.toList (k + 3) from btI_add s k 3)]; omega
  have f41 : ¬ btI s ((k : Int) + 1 + 1 + 1) = 46 := by rw [(show btI s ((k : Int) + 1 + 1 + 1) = Al.bt s.data.toList (k + 3) from by rw [show ((k : Int) + 1 + 1 + 1) = (k : Int) + ((3 : Nat) : Int) from by omega]; exact btI_add s k 3)]; omega
  have f42 : ¬ btI s ((k : Int) + 2 + 1) = 46 := by rw [(show btI s ((k : Int) + 2 + 1) = Al.bt s.data.toList (k + 3) from by rw [show ((k : Int) + 2 + 1) = (k : Int) + ((3 : Nat) : Int) from by omega]; exact btI_add s k 3)]; omega
  have f50 : ¬ btI s ((k : Int) + 3) = 59 := by rw [(show btI s ((k : Int) + 3) = Al.bt s.data.toList (k + 3) from btI_add s k 3)]; omega
  have f51 : ¬ btI s ((k : Int) + 1 + 1 + 1) = 59 := by rw [(show btI s ((k : Int) + 1 + 1 + 1) = Al.bt s.data.toList (k + 3) from by rw [show ((k : Int) + 1 + 1 + 1) = (k : Int) + ((3 : Nat) : Int) from by omega]; exact btI_add s k 3)]; omega
  have f52 : ¬ btI s ((k : Int) + 2 + 1) = 59 := by rw [(show btI s ((k : Int) + 2 + 1) = Al.bt s.data.toList (k + 3) from by rw [show ((k : Int) + 2 + 1) = (k : Int) + ((3 : Nat) : Int) from by omega]; exact btI_add s k 3)]; omega
  clear c0 c1 c2 c3 c4 c5
  have g0 : ((k : Int) + 1 == (k : Int) + 3) = false := beq_eq_false_iff_ne.2 (by omega)
  go_enter Try.func90, Try.ntmps90
  go_wp2_with (first | (go_at_call 102; refine (at_any _ _ _ (by omega)).mono ?_; rintro e w' ⟨rfl, rfl⟩) | (go_at_call 61; refine (Var_any _ _ (btI_ge _ _) (btI_le _ _)).mono ?_; rintro e w' ⟨rfl, rfl⟩) | (go_at_call 57; refine (Field_any _ _ (btI_ge _ _) (btI_le _ _)).mono ?_; rintro e w' ⟨rfl, rfl⟩) | (go_at_call 62; refine (Site_any _ _ (btI_ge _ _) (btI_le _ _)).mono ?_; rintro e w' ⟨rfl, rfl⟩) | (go_at_call 101; refine (left_any _ _ _ (by omega) (by omega)).mono ?_; rintro e w' ⟨rfl, rfl⟩))
  go_ret2
  exact ⟨by simp [HF.out]; try omega, rfl⟩
end Go.Proofs.Ytmjlcajcobbcgaa
