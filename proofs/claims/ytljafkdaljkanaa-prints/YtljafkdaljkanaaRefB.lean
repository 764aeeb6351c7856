import Derived.Test.YtljafkdaljkanaaRefA
namespace Go.Proofs.Ytljafkdaljkanaa
open Go.RowKit
set_option maxHeartbeats 400000 in
theorem Stmt_a (s : ByteArray) (k : Nat) (w : World) (_h1 : (k : Int) ≤ 1000000) (c0 : ¬ Al.vB (Al.bt s.data.toList k) = true) :
    Calls Try.prog 81 #[.string s, .int .i64 k] w fun e w' => e = .returned (.tuple #[.int .i64 ((Al.refStmt s.data.toList k).1 : Nat), .bool (Al.refStmt s.data.toList k).2]) ∧ w' = w := by
  have HF : Hid (Al.refStmt s.data.toList k = (k, false)) := by simp [Hid, Al.refStmt, c0]
  have l00 : leftJ s (k : Int) = (k : Int) ∧ leftB s (k : Int) = false := by
    have P00 : (k : Int) = (((k) : Nat) : Int) := by omega
    have Q00 : leftP s.data.toList k = (k, false) := by simp [leftP, c0]
    rw [P00, leftJ_nat, leftB_nat, Q00]
    exact ⟨by simp, rfl⟩
  obtain ⟨lj00, lb00⟩ := l00
  have f00 : varI (btI s (k : Int)) < 0 := by rw [(show btI s (k : Int) = Al.bt s.data.toList k from btI_nat s k)]; exact var_no c0
  clear c0
  go_enter Try.func81, Try.ntmps81
  go_wp2_with (first | (go_at_call 92; refine (at_any _ _ _ (by omega)).mono ?_; rintro e w' ⟨rfl, rfl⟩) | (go_at_call 57; refine (Var_any _ _ (btI_ge _ _) (btI_le _ _)).mono ?_; rintro e w' ⟨rfl, rfl⟩) | (go_at_call 53; refine (Field_any _ _ (btI_ge _ _) (btI_le _ _)).mono ?_; rintro e w' ⟨rfl, rfl⟩) | (go_at_call 58; refine (Site_any _ _ (btI_ge _ _) (btI_le _ _)).mono ?_; rintro e w' ⟨rfl, rfl⟩) | (go_at_call 91; refine (left_any _ _ _ (by omega) (by omega)).mono ?_; rintro e w' ⟨rfl, rfl⟩))
  go_ret2
  exact ⟨by simp [HF.out]; try omega, rfl⟩
set_option maxHeartbeats 400000 in
theorem Stmt_b (s : ByteArray) (k : Nat) (w : World) (_h1 : (k : Int) ≤ 1000000) (c0 : Al.vB (Al.bt s.data.toList k) = true) (c1 : Al.bt s.data.toList (k + 1) = 46) (c2 : ¬ Al.fB (Al.bt s.data.toList (k + 2)) = true) :
    Calls Try.prog 81 #[.string s, .int .i64 k] w fun e w' => e = .returned (.tuple #[.int .i64 ((Al.refStmt s.data.toList k).1 : Nat), .bool (Al.refStmt s.data.toList k).2]) ∧ w' = w := by
  have HF : Hid (Al.refStmt s.data.toList k = (k + 2, false)) := by simp [Hid, Al.refStmt, c0, c1, c2]
  have l00 : leftJ s (k : Int) = (k : Int) + 2 ∧ leftB s (k : Int) = false := by
    have P00 : (k : Int) = (((k) : Nat) : Int) := by omega
    have Q00 : leftP s.data.toList k = (k + 2, false) := by simp [leftP, c0, c1, c2]
    rw [P00, leftJ_nat, leftB_nat, Q00]
    exact ⟨by simp, rfl⟩
  obtain ⟨lj00, lb00⟩ := l00
  have f00 : 0 ≤ varI (btI s (k : Int)) := by rw [(show btI s (k : Int) = Al.bt s.data.toList k from btI_nat s k)]; exact var_yes c0
  have f10 : btI s ((k : Int) + 1) = 46 := by rw [(show btI s ((k : Int) + 1) = Al.bt s.data.toList (k + 1) from btI_add s k 1)]; omega
  have f20 : fieldI (btI s ((k : Int) + 2)) < 0 := by rw [(show btI s ((k : Int) + 2) = Al.bt s.data.toList (k + 2) from btI_add s k 2)]; exact field_no c2
  have f21 : fieldI (btI s ((k : Int) + 1 + 1)) < 0 := by rw [(show btI s ((k : Int) + 1 + 1) = Al.bt s.data.toList (k + 2) from by rw [show ((k : Int) + 1 + 1) = (k : Int) + ((2 : Nat) : Int) from by omega]; exact btI_add s k 2)]; exact field_no c2
  clear c0 c1 c2
  go_enter Try.func81, Try.ntmps81
  go_wp2_with (first | (go_at_call 92; refine (at_any _ _ _ (by omega)).mono ?_; rintro e w' ⟨rfl, rfl⟩) | (go_at_call 57; refine (Var_any _ _ (btI_ge _ _) (btI_le _ _)).mono ?_; rintro e w' ⟨rfl, rfl⟩) | (go_at_call 53; refine (Field_any _ _ (btI_ge _ _) (btI_le _ _)).mono ?_; rintro e w' ⟨rfl, rfl⟩) | (go_at_call 58; refine (Site_any _ _ (btI_ge _ _) (btI_le _ _)).mono ?_; rintro e w' ⟨rfl, rfl⟩) | (go_at_call 91; refine (left_any _ _ _ (by omega) (by omega)).mono ?_; rintro e w' ⟨rfl, rfl⟩))
  go_ret2
  exact ⟨by simp [HF.out]; try omega, rfl⟩
set_option maxHeartbeats 400000 in
theorem Stmt_c (s : ByteArray) (k : Nat) (w : World) (_h1 : (k : Int) ≤ 1000000) (c0 : Al.vB (Al.bt s.data.toList k) = true) (c1 : Al.bt s.data.toList (k + 1) = 46) (c2 : Al.fB (Al.bt s.data.toList (k + 2)) = true) (c3 : ¬ Al.bt s.data.toList (k + 3) = 61) :
    Calls Try.prog 81 #[.string s, .int .i64 k] w fun e w' => e = .returned (.tuple #[.int .i64 ((Al.refStmt s.data.toList k).1 : Nat), .bool (Al.refStmt s.data.toList k).2]) ∧ w' = w := by
  have HF : Hid (Al.refStmt s.data.toList k = (k + 3, false)) := by simp [Hid, Al.refStmt, c0, c1, c2, c3]
  have l00 : leftJ s (k : Int) = (k : Int) + 3 ∧ leftB s (k : Int) = true := by
    have P00 : (k : Int) = (((k) : Nat) : Int) := by omega
    have Q00 : leftP s.data.toList k = (k + 3, true) := by simp [leftP, c0, c1, c2]
    rw [P00, leftJ_nat, leftB_nat, Q00]
    exact ⟨by simp, rfl⟩
  obtain ⟨lj00, lb00⟩ := l00
  have f00 : 0 ≤ varI (btI s (k : Int)) := by rw [(show btI s (k : Int) = Al.bt s.data.toList k from btI_nat s k)]; exact var_yes c0
  have f10 : btI s ((k : Int) + 1) = 46 := by rw [(show btI s ((k : Int) + 1) = Al.bt s.data.toList (k + 1) from btI_add s k 1)]; omega
  have f20 : 0 ≤ fieldI (btI s ((k : Int) + 2)) := by rw [(show btI s ((k : Int) + 2) = Al.bt s.data.toList (k + 2) from btI_add s k 2)]; exact field_yes c2
  have f21 : 0 ≤ fieldI (btI s ((k : Int) + 1 + 1)) := by rw [(show btI s ((k : Int) + 1 + 1) = Al.bt s.data.toList (k + 2) from by rw [show ((k : Int) + 1 + 1) = (k : Int) + ((2 : Nat) : Int) from by omega]; exact btI_add s k 2)]; exact field_yes c2
  have f30 : ¬ btI s ((k : Int) + 3) = 61 := by rw [(show btI s ((k : Int) + 3) = Al.bt s.data.toList (k + 3) from btI_add s k 3)]; omega
  have f31 : ¬ btI s ((k : Int) + 1 + 1 + 1) = 61 := by rw [(show btI s ((k : Int) + 1 + 1 + 1) = Al.bt s.data.toList (k + 3) from by rw [show ((k : Int) + 1 + 1 + 1) = (k : Int) + ((3 : Nat) : Int) from by omega]; exact btI_add s k 3)]; omega
  have f32 : ¬ btI s ((k : Int) + 2 + 1) = 61 := by rw [(show btI s ((k : Int) + 2 + 1) = Al.bt s.data.toList (k + 3) from by rw [show ((k : Int) + 2 + 1) = (k : Int) + ((3 : Nat) : Int) from by omega]; exact btI_add s k 3)]; omega
  clear c0 c1 c2 c3
  go_enter Try.func81, Try.ntmps81
  go_wp2_with (first | (go_at_call 92; refine (at_any _ _ _ (by omega)).mono ?_; rintro e w' ⟨rfl, rfl⟩) | (go_at_call 57; refine (Var_any _ _ (btI_ge _ _) (btI_le _ _)).mono ?_; rintro e w' ⟨rfl, rfl⟩) | (go_at_call 53; refine (Field_any _ _ (btI_ge _ _) (btI_le _ _)).mono ?_; rintro e w' ⟨rfl, rfl⟩) | (go_at_call 58; refine (Site_any _ _ (btI_ge _ _) (btI_le _ _)).mono ?_; rintro e w' ⟨rfl, rfl⟩) | (go_at_call 91; refine (left_any _ _ _ (by omega) (by omega)).mono ?_; rintro e w' ⟨rfl, rfl⟩))
  go_ret2
  exact ⟨by simp [HF.out]; try omega, rfl⟩
set_option maxHeartbeats 400000 in
theorem Stmt_d (s : ByteArray) (k : Nat) (w : World) (_h1 : (k : Int) ≤ 1000000) (c0 : Al.vB (Al.bt s.data.toList k) = true) (c1 : Al.bt s.data.toList (k + 1) = 46) (c2 : Al.fB (Al.bt s.data.toList (k + 2)) = true) (c3 : Al.bt s.data.toList (k + 3) = 61) (c4 : ¬ Al.vB (Al.bt s.data.toList (k + 4)) = true) :
    Calls Try.prog 81 #[.string s, .int .i64 k] w fun e w' => e = .returned (.tuple #[.int .i64 ((Al.refStmt s.data.toList k).1 : Nat), .bool (Al.refStmt s.data.toList k).2]) ∧ w' = w := by
  have HF : Hid (Al.refStmt s.data.toList k = (k + 4, false)) := by simp [Hid, Al.refStmt, c0, c1, c2, c3, c4]
  have l00 : leftJ s (k : Int) = (k : Int) + 3 ∧ leftB s (k : Int) = true := by
    have P00 : (k : Int) = (((k) : Nat) : Int) := by omega
    have Q00 : leftP s.data.toList k = (k + 3, true) := by simp [leftP, c0, c1, c2]
    rw [P00, leftJ_nat, leftB_nat, Q00]
    exact ⟨by simp, rfl⟩
  obtain ⟨lj00, lb00⟩ := l00
  have f00 : 0 ≤ varI (btI s (k : Int)) := by rw [(show btI s (k : Int) = Al.bt s.data.toList k from btI_nat s k)]; exact var_yes c0
  have f10 : btI s ((k : Int) + 1) = 46 := by rw [(show btI s ((k : Int) + 1) = Al.bt s.data.toList (k + 1) from btI_add s k 1)]; omega
  have f20 : 0 ≤ fieldI (btI s ((k : Int) + 2)) := by rw [(show btI s ((k : Int) + 2) = Al.bt s.data.toList (k + 2) from btI_add s k 2)]; exact field_yes c2
  have f21 : 0 ≤ fieldI (btI s ((k : Int) + 1 + 1)) := by rw [(show btI s ((k : Int) + 1 + 1) = Al.bt s.data.toList (k + 2) from by rw [show ((k : Int) + 1 + 1) = (k : Int) + ((2 : Nat) : Int) from by omega]; exact btI_add s k 2)]; exact field_yes c2
  have f30 : btI s ((k : Int) + 3) = 61 := by rw [(show btI s ((k : Int) + 3) = Al.bt s.data.toList (k + 3) from btI_add s k 3)]; omega
  have f31 : btI s ((k : Int) + 1 + 1 + 1) = 61 := by rw [(show btI s ((k : Int) + 1 + 1 + 1) = Al.bt s.data.toList (k + 3) from by rw [show ((k : Int) + 1 + 1 + 1) = (k : Int) + ((3 : Nat) : Int) from by omega]; exact btI_add s k 3)]; omega
  have f32 : btI s ((k : Int) + 2 + 1) = 61 := by rw [(show btI s ((k : Int) + 2 + 1) = Al.bt s.data.toList (k + 3) from by rw [show ((k : Int) + 2 + 1) = (k : Int) + ((3 : Nat) : Int) from by omega]; exact btI_add s k 3)]; omega
  have f40 : varI (btI s ((k : Int) + 4)) < 0 := by rw [(show btI s ((k : Int) + 4) = Al.bt s.data.toList (k + 4) from btI_add s k 4)]; exact var_no c4
  have f41 : varI (btI s ((k : Int) + 3 + 1)) < 0 := by rw [(show btI s ((k : Int) + 3 + 1) = Al.bt s.data.toList (k + 4) from by rw [show ((k : Int) + 3 + 1) = (k : Int) + ((4 : Nat) : Int) from by omega]; exact btI_add s k 4)]; exact var_no c4
  have f42 : varI (btI s ((k : Int) + 1 + 1 + 2)) < 0 := by rw [(show btI s ((k : Int) + 1 + 1 + 2) = Al.bt s.data.toList (k + 4) from by rw [show ((k : Int) + 1 + 1 + 2) = (k : Int) + ((4 : Nat) : Int) from by omega]; exact btI_add s k 4)]; exact var_no c4
  have f43 : varI (btI s ((k : Int) + 2 + 2)) < 0 := by rw [(show btI s ((k : Int) + 2 + 2) = Al.bt s.data.toList (k + 4) from by rw [show ((k : Int) + 2 + 2) = (k : Int) + ((4 : Nat) : Int) from by omega]; exact btI_add s k 4)]; exact var_no c4
  clear c0 c1 c2 c3 c4
  go_enter Try.func81, Try.ntmps81
  go_wp2_with (first | (go_at_call 92; refine (at_any _ _ _ (by omega)).mono ?_; rintro e w' ⟨rfl, rfl⟩) | (go_at_call 57; refine (Var_any _ _ (btI_ge _ _) (btI_le _ _)).mono ?_; rintro e w' ⟨rfl, rfl⟩) | (go_at_call 53; refine (Field_any _ _ (btI_ge _ _) (btI_le _ _)).mono ?_; rintro e w' ⟨rfl, rfl⟩) | (go_at_call 58; refine (Site_any _ _ (btI_ge _ _) (btI_le _ _)).mono ?_; rintro e w' ⟨rfl, rfl⟩) | (go_at_call 91; refine (left_any _ _ _ (by omega) (by omega)).mono ?_; rintro e w' ⟨rfl, rfl⟩))
  go_ret2
  exact ⟨by simp [HF.out]; try omega, rfl⟩
set_option maxHeartbeats 400000 in
theorem Stmt_e (s : ByteArray) (k : Nat) (w : World) (_h1 : (k : Int) ≤ 1000000) (c0 : Al.vB (Al.bt s.data.toList k) = true) (c1 : Al.bt s.data.toList (k + 1) = 46) (c2 : Al.fB (Al.bt s.data.toList (k + 2)) = true) (c3 : Al.bt s.data.toList (k + 3) = 61) (c4 : Al.vB (Al.bt s.data.toList (k + 4)) = true) (c5 : ¬ Al.bt s.data.toList (k + 5) = 59) :
    Calls Try.prog 81 #[.string s, .int .i64 k] w fun e w' => e = .returned (.tuple #[.int .i64 ((Al.refStmt s.data.toList k).1 : Nat), .bool (Al.refStmt s.data.toList k).2]) ∧ w' = w := by
  have HF : Hid (Al.refStmt s.data.toList k = (k + 5, false)) := by simp [Hid, Al.refStmt, c0, c1, c2, c3, c4, c5]
  have l00 : leftJ s (k : Int) = (k : Int) + 3 ∧ leftB s (k : Int) = true := by
    have P00 : (k : Int) = (((k) : Nat) : Int) := by omega
    have Q00 : leftP s.data.toList k = (k + 3, true) := by simp [leftP, c0, c1, c2]
    rw [P00, leftJ_nat, leftB_nat, Q00]
    exact ⟨by simp, rfl⟩
  obtain ⟨lj00, lb00⟩ := l00
  have f00 : 0 ≤ varI (btI s (k : Int)) := by rw [(show btI s (k : Int) = Al.bt s.data.toList k from btI_nat s k)]; exact var_yes c0
  have f10 : btI s ((k : Int) + 1) = 46 := by rw [(show btI s ((k : Int) + 1) = Al.bt s.data.toList (k + 1) from btI_add s k 1)]; omega
  have f20 : 0 ≤ fieldI (btI s ((k : Int) + 2)) := by rw [(show btI s ((k : Int) + 2) = Al.bt s.data.toList (k + 2) from btI_add s k 2)]; exact field_yes c2
  have f21 : 0 ≤ fieldI (btI s ((k : Int) + 1 + 1)) := by rw [(show btI s ((k : Int) + 1 + 1) = Al.bt s.data.toList (k + 2) from by rw [show ((k : Int) + 1 + 1) = (k : Int) + ((2 : Nat) : Int) from by omega]; exact btI_add s k 2)]; exact field_yes c2
  have f30 : btI s ((k : Int) + 3) = 61 := by rw [(show btI s ((k : Int) + 3) = Al.bt s.data.toList (k + 3) from btI_add s k 3)]; omega
  have f31 : btI s ((k : Int) + 1 + 1 + 1) = 61 := by rw [(show btI s ((k : Int) + 1 + 1 + 1) = Al.bt s.data.toList (k + 3) from by rw [show ((k : Int) + 1 + 1 + 1) = (k : Int) + ((3 : Nat) : Int) from by omega]; exact btI_add s k 3)]; omega
  have f32 : btI s ((k : Int) + 2 + 1) = 61 := by rw [(show btI s ((k : Int) + 2 + 1) = Al.bt s.data.toList (k + 3) from by rw [show ((k : Int) + 2 + 1) = (k : Int) + ((3 : Nat) : Int) from by omega]; exact btI_add s k 3)]; omega
  have f40 : 0 ≤ varI (btI s ((k : Int) + 4)) := by rw [(show btI s ((k : Int) + 4) = Al.bt s.data.toList (k + 4) from btI_add s k 4)]; exact var_yes c4
  have f41 : 0 ≤ varI (btI s ((k : Int) + 3 + 1)) := by rw [(show btI s ((k : Int) + 3 + 1) = Al.bt s.data.toList (k + 4) from by rw [show ((k : Int) + 3 + 1) = (k : Int) + ((4 : Nat) : Int) from by omega]; exact btI_add s k 4)]; exact var_yes c4
  have f42 : 0 ≤ varI (btI s ((k : Int) + 1 + 1 + 2)) := by rw [(show btI s ((k : Int) + 1 + 1 + 2) = Al.bt s.data.toList (k + 4) from by rw [show ((k : Int) + 1 + 1 + 2) = (k : Int) + ((4 : Nat) : Int) from by omega]; exact btI_add s k 4)]; exact var_yes c4
  have f43 : 0 ≤ varI (btI s ((k : Int) + 2 + 2)) := by rw [(show btI s ((k : Int) + 2 + 2) = Al.bt s.data.toList (k + 4) from by rw [show ((k : Int) + 2 + 2) = (k : Int) + ((4 : Nat) : Int) from by omega]; exact btI_add s k 4)]; exact var_yes c4
  have f50 : ¬ btI s ((k : Int) + 5) = 59 := by rw [(show btI s ((k : Int) + 5) = Al.bt s.data.toList (k + 5) from btI_add s k 5)]; omega
  have f51 : ¬ btI s ((k : Int) + 3 + 1 + 1) = 59 := by rw [(show btI s ((k : Int) + 3 + 1 + 1) = Al.bt s.data.toList (k + 5) from by rw [show ((k : Int) + 3 + 1 + 1) = (k : Int) + ((5 : Nat) : Int) from by omega]; exact btI_add s k 5)]; omega
  have f52 : ¬ btI s ((k : Int) + 4 + 1) = 59 := by rw [(show btI s ((k : Int) + 4 + 1) = Al.bt s.data.toList (k + 5) from by rw [show ((k : Int) + 4 + 1) = (k : Int) + ((5 : Nat) : Int) from by omega]; exact btI_add s k 5)]; omega
  clear c0 c1 c2 c3 c4 c5
  go_enter Try.func81, Try.ntmps81
  go_wp2_with (first | (go_at_call 92; refine (at_any _ _ _ (by omega)).mono ?_; rintro e w' ⟨rfl, rfl⟩) | (go_at_call 57; refine (Var_any _ _ (btI_ge _ _) (btI_le _ _)).mono ?_; rintro e w' ⟨rfl, rfl⟩) | (go_at_call 53; refine (Field_any _ _ (btI_ge _ _) (btI_le _ _)).mono ?_; rintro e w' ⟨rfl, rfl⟩) | (go_at_call 58; refine (Site_any _ _ (btI_ge _ _) (btI_le _ _)).mono ?_; rintro e w' ⟨rfl, rfl⟩) | (go_at_call 91; refine (left_any _ _ _ (by omega) (by omega)).mono ?_; rintro e w' ⟨rfl, rfl⟩))
  go_ret2
  exact ⟨by simp [HF.out]; try omega, rfl⟩
set_option maxHeartbeats 400000 in
theorem Stmt_f (s : ByteArray) (k : Nat) (w : World) (_h1 : (k : Int) ≤ 1000000) (c0 : Al.vB (Al.bt s.data.toList k) = true) (c1 : Al.bt s.data.toList (k + 1) = 46) (c2 : Al.fB (Al.bt s.data.toList (k + 2)) = true) (c3 : Al.bt s.data.toList (k + 3) = 61) (c4 : Al.vB (Al.bt s.data.toList (k + 4)) = true) (c5 : Al.bt s.data.toList (k + 5) = 59) :
    Calls Try.prog 81 #[.string s, .int .i64 k] w fun e w' => e = .returned (.tuple #[.int .i64 ((Al.refStmt s.data.toList k).1 : Nat), .bool (Al.refStmt s.data.toList k).2]) ∧ w' = w := by
  have HF : Hid (Al.refStmt s.data.toList k = (k + 6, true)) := by simp [Hid, Al.refStmt, c0, c1, c2, c3, c4, c5]
  have l00 : leftJ s (k : Int) = (k : Int) + 3 ∧ leftB s (k : Int) = true := by
    have P00 : (k : Int) = (((k) : Nat) : Int) := by omega
    have Q00 : leftP s.data.toList k = (k + 3, true) := by simp [leftP, c0, c1, c2]
    rw [P00, leftJ_nat, leftB_nat, Q00]
    exact ⟨by simp, rfl⟩
  obtain ⟨lj00, lb00⟩ := l00
  have f00 : 0 ≤ varI (btI s (k : Int)) := by rw [(show btI s (k : Int) = Al.bt s.data.toList k from btI_nat s k)]; exact var_yes c0
  have f10 : btI s ((k : Int) + 1) = 46 := by rw [(show btI s ((k : Int) + 1) = Al.bt s.data.toList (k + 1) from btI_add s k 1)]; omega
  have f20 : 0 ≤ fieldI (btI s ((k : Int) + 2)) := by rw [(show btI s ((k : Int) + 2) = Al.bt s.data.toList (k + 2) from btI_add s k 2)]; exact field_yes c2
  have f21 : 0 ≤ fieldI (btI s ((k : Int) + 1 + 1)) := by rw [(show btI s ((k : Int) + 1 + 1) = Al.bt s.data.toList (k + 2) from by rw [show ((k : Int) + 1 + 1) = (k : Int) + ((2 : Nat) : Int) from by omega]; exact btI_add s k 2)]; exact field_yes c2
  have f30 : btI s ((k : Int) + 3) = 61 := by rw [(show btI s ((k : Int) + 3) = Al.bt s.data.toList (k + 3) from btI_add s k 3)]; omega
  have f31 : btI s ((k : Int) + 1 + 1 + 1) = 61 := by rw [(show btI s ((k : Int) + 1 + 1 + 1) = Al.bt s.data.toList (k + 3) from by rw [show ((k : Int) + 1 + 1 + 1) = (k : Int) + ((3 : Nat) : Int) from by omega]; exact btI_add s k 3)]; omega
  have f32 : btI s ((k : Int) + 2 + 1) = 61 := by rw [(show btI s ((k : Int) + 2 + 1) = Al.bt s.data.toList (k + 3) from by rw [show ((k : Int) + 2 + 1) = (k : Int) + ((3 : Nat) : Int) from by omega]; exact btI_add s k 3)]; omega
  have f40 : 0 ≤ varI (btI s ((k : Int) + 4)) := by rw [(show btI s ((k : Int) + 4) = Al.bt s.data.toList (k + 4) from btI_add s k 4)]; exact var_yes c4
  have f41 : 0 ≤ varI (btI s ((k : Int) + 3 + 1)) := by rw [(show btI s ((k : Int) + 3 + 1) = Al.bt s.data.toList (k + 4) from by rw [show ((k : Int) + 3 + 1) = (k : Int) + ((4 : Nat) : Int) from by omega]; exact btI_add s k 4)]; exact var_yes c4
  have f42 : 0 ≤ varI (btI s ((k : Int) + 1 + 1 + 2)) := by rw [(show btI s ((k : Int) + 1 + 1 + 2) = Al.bt s.data.toList (k + 4) from by rw [show ((k : Int) + 1 + 1 + 2) = (k : Int) + ((4 : Nat) : Int) from by omega]; exact btI_add s k 4)]; exact var_yes c4
  have f43 : 0 ≤ varI (btI s ((k : Int) + 2 + 2)) := by rw [(show btI s ((k : Int) + 2 + 2) = Al.bt s.data.toList (k + 4) from by rw [show ((k : Int) + 2 + 2) = (k : Int) + ((4 : Nat) : Int) from by omega]; exact btI_add s k 4)]; exact var_yes c4
  have f50 : btI s ((k : Int) + 5) = 59 := by rw [(show btI s ((k : Int) + 5) = Al.bt s.data.toList (k + 5) from btI_add s k 5)]; omega
  have f51 : btI s ((k : Int) + 3 + 1 + 1) = 59 := by rw [(show btI s ((k : Int) + 3 + 1 + 1) = Al.bt s.data.toList (k + 5) from by rw [show ((k : Int) + 3 + 1 + 1) = (k : Int) + ((5 : Nat) : Int) from by omega]; exact btI_add s k 5)]; omega
  have f52 : btI s ((k : Int) + 4 + 1) = 59 := by rw [(show btI s ((k : Int) + 4 + 1) = Al.bt s.data.toList (k + 5) from by rw [show ((k : Int) + 4 + 1) = (k : Int) + ((5 : Nat) : Int) from by omega]; exact btI_add s k 5)]; omega
  clear c0 c1 c2 c3 c4 c5
  go_enter Try.func81, Try.ntmps81
  go_wp2_with (first | (go_at_call 92; refine (at_any _ _ _ (by omega)).mono ?_; rintro e w' ⟨rfl, rfl⟩) | (go_at_call 57; refine (Var_any _ _ (btI_ge _ _) (btI_le _ _)).mono ?_; rintro e w' ⟨rfl, rfl⟩) | (go_at_call 53; refine (Field_any _ _ (btI_ge _ _) (btI_le _ _)).mono ?_; rintro e w' ⟨rfl, rfl⟩) | (go_at_call 58; refine (Site_any _ _ (btI_ge _ _) (btI_le _ _)).mono ?_; rintro e w' ⟨rfl, rfl⟩) | (go_at_call 91; refine (left_any _ _ _ (by omega) (by omega)).mono ?_; rintro e w' ⟨rfl, rfl⟩))
  go_ret2
  exact ⟨by simp [HF.out]; try omega, rfl⟩
set_option maxHeartbeats 400000 in
theorem Stmt_g (s : ByteArray) (k : Nat) (w : World) (_h1 : (k : Int) ≤ 1000000) (c0 : Al.vB (Al.bt s.data.toList k) = true) (c1 : ¬ Al.bt s.data.toList (k + 1) = 46) (c2 : ¬ Al.bt s.data.toList (k + 1) = 61) :
    Calls Try.prog 81 #[.string s, .int .i64 k] w fun e w' => e = .returned (.tuple #[.int .i64 ((Al.refStmt s.data.toList k).1 : Nat), .bool (Al.refStmt s.data.toList k).2]) ∧ w' = w := by
  have HF : Hid (Al.refStmt s.data.toList k = (k + 1, false)) := by simp [Hid, Al.refStmt, c0, c1, c2]
  have l00 : leftJ s (k : Int) = (k : Int) + 1 ∧ leftB s (k : Int) = true := by
    have P00 : (k : Int) = (((k) : Nat) : Int) := by omega
    have Q00 : leftP s.data.toList k = (k + 1, true) := by simp [leftP, c0, c1]
    rw [P00, leftJ_nat, leftB_nat, Q00]
    exact ⟨by simp, rfl⟩
  obtain ⟨lj00, lb00⟩ := l00
  have f00 : 0 ≤ varI (btI s (k : Int)) := by rw [(show btI s (k : Int) = Al.bt s.data.toList k from btI_nat s k)]; exact var_yes c0
  have f10 : ¬ btI s ((k : Int) + 1) = 46 := by rw [(show btI s ((k : Int) + 1) = Al.bt s.data.toList (k + 1) from btI_add s k 1)]; omega
  have f20 : ¬ btI s ((k : Int) + 1) = 61 := by rw [(show btI s ((k : Int) + 1) = Al.bt s.data.toList (k + 1) from btI_add s k 1)]; omega
  clear c0 c1 c2
  have g0 : ((k : Int) + 1 == (k : Int) + 3) = false := beq_eq_false_iff_ne.2 (by omega)
  go_enter Try.func81, Try.ntmps81
  go_wp2_with (first | (go_at_call 92; refine (at_any _ _ _ (by omega)).mono ?_; rintro e w' ⟨rfl, rfl⟩) | (go_at_call 57; refine (Var_any _ _ (btI_ge _ _) (btI_le _ _)).mono ?_; rintro e w' ⟨rfl, rfl⟩) | (go_at_call 53; refine (Field_any _ _ (btI_ge _ _) (btI_le _ _)).mono ?_; rintro e w' ⟨rfl, rfl⟩) | (go_at_call 58; refine (Site_any _ _ (btI_ge _ _) (btI_le _ _)).mono ?_; rintro e w' ⟨rfl, rfl⟩) | (go_at_call 91; refine (left_any _ _ _ (by omega) (by omega)).mono ?_; rintro e w' ⟨rfl, rfl⟩))
  go_ret2
  exact ⟨by simp [HF.out]; try omega, rfl⟩
set_option maxHeartbeats 400000 in
theorem Stmt_h (s : ByteArray) (k : Nat) (w : World) (_h1 : (k : Int) ≤ 1000000) (c0 : Al.vB (Al.bt s.data.toList k) = true) (c1 : Al.bt s.data.toList (k + 1) = 61) (c2 : Al.bt s.data.toList (k + 2) = 64) (c3 : ¬ Al.oB (Al.bt s.data.toList (k + 3)) = true) :
    Calls Try.prog 81 #[.string s, .int .i64 k] w fun e w' => e = .returned (.tuple #[.int .i64 ((Al.refStmt s.data.toList k).1 : Nat), .bool (Al.refStmt s.data.toList k).2]) ∧ w' = w := by
  have HF : Hid (Al.refStmt s.data.toList k = (k + 3, false)) := by simp [Hid, Al.refStmt, c0, c1, c2, c3]
  have l00 : leftJ s (k : Int) = (k : Int) + 1 ∧ leftB s (k : Int) = true := by
    have P00 : (k : Int) = (((k) : Nat) : Int) := by omega
    have Q00 : leftP s.data.toList k = (k + 1, true) := by simp [leftP, c0, c1]
    rw [P00, leftJ_nat, leftB_nat, Q00]
    exact ⟨by simp, rfl⟩
  obtain ⟨lj00, lb00⟩ := l00
  have f00 : 0 ≤ varI (btI s (k : Int)) := by rw [(show btI s (k : Int) = Al.bt s.data.toList k from btI_nat s k)]; exact var_yes c0
  have f10 : btI s ((k : Int) + 1) = 61 := by rw [(show btI s ((k : Int) + 1) = Al.bt s.data.toList (k + 1) from btI_add s k 1)]; omega
  have f20 : btI s ((k : Int) + 2) = 64 := by rw [(show btI s ((k : Int) + 2) = Al.bt s.data.toList (k + 2) from btI_add s k 2)]; omega
  have f21 : btI s ((k : Int) + 1 + 1) = 64 := by rw [(show btI s ((k : Int) + 1 + 1) = Al.bt s.data.toList (k + 2) from by rw [show ((k : Int) + 1 + 1) = (k : Int) + ((2 : Nat) : Int) from by omega]; exact btI_add s k 2)]; omega
  have f30 : siteI (btI s ((k : Int) + 3)) < 0 := by rw [(show btI s ((k : Int) + 3) = Al.bt s.data.toList (k + 3) from btI_add s k 3)]; exact site_no c3
  have f31 : siteI (btI s ((k : Int) + 1 + 1 + 1)) < 0 := by rw [(show btI s ((k : Int) + 1 + 1 + 1) = Al.bt s.data.toList (k + 3) from by rw [show ((k : Int) + 1 + 1 + 1) = (k : Int) + ((3 : Nat) : Int) from by omega]; exact btI_add s k 3)]; exact site_no c3
  have f32 : siteI (btI s ((k : Int) + 2 + 1)) < 0 := by rw [(show btI s ((k : Int) + 2 + 1) = Al.bt s.data.toList (k + 3) from by rw [show ((k : Int) + 2 + 1) = (k : Int) + ((3 : Nat) : Int) from by omega]; exact btI_add s k 3)]; exact site_no c3
  clear c0 c1 c2 c3
  have g0 : ((k : Int) + 1 == (k : Int) + 3) = false := beq_eq_false_iff_ne.2 (by omega)
  go_enter Try.func81, Try.ntmps81
  go_wp2_with (first | (go_at_call 92; refine (at_any _ _ _ (by omega)).mono ?_; rintro e w' ⟨rfl, rfl⟩) | (go_at_call 57; refine (Var_any _ _ (btI_ge _ _) (btI_le _ _)).mono ?_; rintro e w' ⟨rfl, rfl⟩) | (go_at_call 53; refine (Field_any _ _ (btI_ge _ _) (btI_le _ _)).mono ?_; rintro e w' ⟨rfl, rfl⟩) | (go_at_call 58; refine (Site_any _ _ (btI_ge _ _) (btI_le _ _)).mono ?_; rintro e w' ⟨rfl, rfl⟩) | (go_at_call 91; refine (left_any _ _ _ (by omega) (by omega)).mono ?_; rintro e w' ⟨rfl, rfl⟩))
  go_ret2
  exact ⟨by simp [HF.out]; try omega, rfl⟩
end Go.Proofs.Ytljafkdaljkanaa
