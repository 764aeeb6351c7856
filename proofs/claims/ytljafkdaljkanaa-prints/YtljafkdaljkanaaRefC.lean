import Derived.Test.YtljafkdaljkanaaRefA
namespace Go.Proofs.Ytljafkdaljkanaa
open Go.RowKit
set_option maxHeartbeats 400000 in
theorem Stmt_i (s : ByteArray) (k : Nat) (w : World) (_h1 : (k : Int) ≤ 1000000) (c0 : Al.vB (Al.bt s.data.toList k) = true) (c1 : Al.bt s.data.toList (k + 1) = 61) (c2 : Al.bt s.data.toList (k + 2) = 64) (c3 : Al.oB (Al.bt s.data.toList (k + 3)) = true) (c4 : ¬ Al.bt s.data.toList (k + 4) = 59) :
    Calls Try.prog 81 #[.string s, .int .i64 k] w fun e w' => e = .returned (.tuple #[.int .i64 ((Al.refStmt s.data.toList k).1 : Nat), .bool (Al.refStmt s.data.toList k).2]) ∧ w' = w := by
  have HF : Hid (Al.refStmt s.data.toList k = (k + 4, false)) := by simp [Hid, Al.refStmt, c0, c1, c2, c3, c4]
  have l00 : leftJ s (k : Int) = (k : Int) + 1 ∧ leftB s (k : Int) = true := by
    have P00 : (k : Int) = (((k) : Nat) : Int) := by omega
    have Q00 : leftP s.data.toList k = (k + 1, true) := by simp [leftP, c0, c1]
    rw [P00, leftJ_nat, leftB_nat, Q00]
    exact ⟨by simp, rfl⟩
  obtain ⟨lj00, lb00⟩ := l00
  have f00 : 0 ≤ varI (btI s (k : Int)) := by rw [(show btI s (k : Int) = Al.bt s.data.toList k from btI_nat s k)]; exact var_yes c0
  have f10 : btI s ((k : Int) + 1) = 61 := by rw [(show btI s ((k : Int) + 1) = Al.bt s.data.toList (k + 1) from btI_add s k 1)]; omega
  have f20 : btI s ((k : Int) + 2) = 64 := by rw [(show btI s ((k : Int) + 2) = Al.bt s.data.toList (k + 2) from btI_add s k 2)]; omega
  have f21 : btI s ((k : Int) + 1 + 1) = 64 := by rw [(show btI s ((k : Int) + 1 + 1) = Al.bt s.data.toList (k + 2) from by rw [show ((k : Int) + 1 + 1) = (k : Int) + ((2 : Nat) : Int) from by omega]; exact btI_add s k 2)]; omega
  have f30 : 0 ≤ siteI (btI s ((k : Int) + 3)) := by rw [(show btI s ((k : Int) + 3) = Al.bt s.data.toList (k + 3) from btI_add s k 3)]; exact site_yes c3
  have f31 : 0 ≤ siteI (btI s ((k : Int) + 1 + 1 + 1)) := by rw [(show btI s ((k : Int) + 1 + 1 + 1) = Al.bt s.data.toList (k + 3) from by rw [show ((k : Int) + 1 + 1 + 1) = (k : Int) + ((3 : Nat) : Int) from by omega]; exact btI_add s k 3)]; exact site_yes c3
  have f32 : 0 ≤ siteI (btI s ((k : Int) + 2 + 1)) := by rw [(show btI s ((k : Int) + 2 + 1) = Al.bt s.data.toList (k + 3) from by rw [show ((k : Int) + 2 + 1) = (k : Int) + ((3 : Nat) : Int) from by omega]; exact btI_add s k 3)]; exact site_yes c3
  have f40 : ¬ btI s ((k : Int) + 4) = 59 := by rw [(show btI s ((k : Int) + 4) = Al.bt s.data.toList (k + 4) from btI_add s k 4)]; omega
  have f41 : ¬ btI s ((k : Int) + 3 + 1) = 59 := by rw [(show btI s ((k : Int) + 3 + 1) = Al.bt s.data.toList (k + 4) from by rw [show ((k : Int) + 3 + 1) = (k : Int) + ((4 : Nat) : Int) from by omega]; exact btI_add s k 4)]; omega
  have f42 : ¬ btI s ((k : Int) + 1 + 1 + 2) = 59 := by rw [(show btI s ((k : Int) + 1 + 1 + 2) = Al.bt s.data.toList (k + 4) from by rw [show ((k : Int) + 1 + 1 + 2) = (k : Int) + ((4 : Nat) : Int) from by omega]; exact btI_add s k 4)]; omega
  have f43 : ¬ btI s ((k : Int) + 2 + 2) = 59 := by rw [(show btI s ((k : Int) + 2 + 2) = Al.bt s.data.toList (k + 4) from by rw [show ((k : Int) + 2 + 2) = (k : Int) + ((4 : Nat) : Int) from by omega]; exact btI_add s k 4)]; omega
  clear c0 c1 c2 c3 c4
  have g0 : ((k : Int) + 1 == (k : Int) + 3) = false := beq_eq_false_iff_ne.2 (by omega)
  go_enter Try.func81, Try.ntmps81
  go_wp2_with (first | (go_at_call 92; refine (at_any _ _ _ (by omega)).mono ?_; rintro e w' ⟨rfl, rfl⟩) | (go_at_call 57; refine (Var_any _ _ (btI_ge _ _) (btI_le _ _)).mono ?_; rintro e w' ⟨rfl, rfl⟩) | (go_at_call 53; refine (Field_any _ _ (btI_ge _ _) (btI_le _ _)).mono ?_; rintro e w' ⟨rfl, rfl⟩) | (go_at_call 58; refine (Site_any _ _ (btI_ge _ _) (btI_le _ _)).mono ?_; rintro e w' ⟨rfl, rfl⟩) | (go_at_call 91; refine (left_any _ _ _ (by omega) (by omega)).mono ?_; rintro e w' ⟨rfl, rfl⟩))
  go_ret2
  exact ⟨by simp [HF.out]; try omega, rfl⟩
set_option maxHeartbeats 400000 in
theorem Stmt_j (s : ByteArray) (k : Nat) (w : World) (_h1 : (k : Int) ≤ 1000000) (c0 : Al.vB (Al.bt s.data.toList k) = true) (c1 : Al.bt s.data.toList (k + 1) = 61) (c2 : Al.bt s.data.toList (k + 2) = 64) (c3 : Al.oB (Al.bt s.data.toList (k + 3)) = true) (c4 : Al.bt s.data.toList (k + 4) = 59) :
    Calls Try.prog 81 #[.string s, .int .i64 k] w fun e w' => e = .returned (.tuple #[.int .i64 ((Al.refStmt s.data.toList k).1 : Nat), .bool (Al.refStmt s.data.toList k).2]) ∧ w' = w := by
  have HF : Hid (Al.refStmt s.data.toList k = (k + 5, true)) := by simp [Hid, Al.refStmt, c0, c1, c2, c3, c4]
  have l00 : leftJ s (k : Int) = (k : Int) + 1 ∧ leftB s (k : Int) = true := by
    have P00 : (k : Int) = (((k) : Nat) : Int) := by omega
    have Q00 : leftP s.data.toList k = (k + 1, true) := by simp [leftP, c0, c1]
    rw [P00, leftJ_nat, leftB_nat, Q00]
    exact ⟨by simp, rfl⟩
  obtain ⟨lj00, lb00⟩ := l00
  have f00 : 0 ≤ varI (btI s (k : Int)) := by rw [(show btI s (k : Int) = Al.bt s.data.toList k from btI_nat s k)]; exact var_yes c0
  have f10 : btI s ((k : Int) + 1) = 61 := by rw [(show btI s ((k : Int) + 1) = Al.bt s.data.toList (k + 1) from btI_add s k 1)]; omega
  have f20 : btI s ((k : Int) + 2) = 64 := by rw [(show btI s ((k : Int) + 2) = Al.bt s.data.toList (k + 2) from btI_add s k 2)]; omega
  have f21 : btI s ((k : Int) + 1 + 1) = 64 := by rw [(show btI s ((k : Int) + 1 + 1) = Al.bt s.data.toList (k + 2) from by rw [show ((k : Int) + 1 + 1) = (k : Int) + ((2 : Nat) : Int) from by omega]; exact btI_add s k 2)]; omega
  have f30 : 0 ≤ siteI (btI s ((k : Int) + 3)) := by rw [(show btI s ((k : Int) + 3) = Al.bt s.data.toList (k + 3) from btI_add s k 3)]; exact site_yes c3
  have f31 : 0 ≤ siteI (btI s ((k : Int) + 1 + 1 + 1)) := by rw [(show btI s ((k : Int) + 1 + 1 + 1) = Al.bt s.data.toList (k + 3) from by rw [show ((k : Int) + 1 + 1 + 1) = (k : Int) + ((3 : Nat) : Int) from by omega]; exact btI_add s k 3)]; exact site_yes c3
  have f32 : 0 ≤ siteI (btI s ((k : Int) + 2 + 1)) := by rw [(show btI s ((k : Int) + 2 + 1) = Al.bt s.data.toList (k + 3) from by rw [show ((k : Int) + 2 + 1) = (k : Int) + ((3 : Nat) : Int) from by omega]; exact btI_add s k 3)]; exact site_yes c3
  have f40 : btI s ((k : Int) + 4) = 59 := by rw [(show btI s ((k : Int) + 4) = Al.bt s.data.toList (k + 4) from btI_add s k 4)]; omega
  have f41 : btI s ((k : Int) + 3 + 1) = 59 := by rw [(show btI s ((k : Int) + 3 + 1) = Al.bt s.data.toList (k + 4) from by rw [show ((k : Int) + 3 + 1) = (k : Int) + ((4 : Nat) : Int) from by omega]; exact btI_add s k 4)]; omega
  have f42 : btI s ((k : Int) + 1 + 1 + 2) = 59 := by rw [(show btI s ((k : Int) + 1 + 1 + 2) = Al.bt s.data.toList (k + 4) from by rw [show ((k : Int) + 1 + 1 + 2) = (k : Int) + ((4 : Nat) : Int) from by omega]; exact btI_add s k 4)]; omega
  have f43 : btI s ((k : Int) + 2 + 2) = 59 := by rw [(show btI s ((k : Int) + 2 + 2) = Al.bt s.data.toList (k + 4) from by rw [show ((k : Int) + 2 + 2) = (k : Int) + ((4 : Nat) : Int) from by omega]; exact btI_add s k 4)]; omega
  clear c0 c1 c2 c3 c4
  have g0 : ((k : Int) + 1 == (k : Int) + 3) = false := beq_eq_false_iff_ne.2 (by omega)
  go_enter Try.func81, Try.ntmps81
  go_wp2_with (first | (go_at_call 92; refine (at_any _ _ _ (by omega)).mono ?_; rintro e w' ⟨rfl, rfl⟩) | (go_at_call 57; refine (Var_any _ _ (btI_ge _ _) (btI_le _ _)).mono ?_; rintro e w' ⟨rfl, rfl⟩) | (go_at_call 53; refine (Field_any _ _ (btI_ge _ _) (btI_le _ _)).mono ?_; rintro e w' ⟨rfl, rfl⟩) | (go_at_call 58; refine (Site_any _ _ (btI_ge _ _) (btI_le _ _)).mono ?_; rintro e w' ⟨rfl, rfl⟩) | (go_at_call 91; refine (left_any _ _ _ (by omega) (by omega)).mono ?_; rintro e w' ⟨rfl, rfl⟩))
  go_ret2
  exact ⟨by simp [HF.out]; try omega, rfl⟩
set_option maxHeartbeats 400000 in
theorem Stmt_k (s : ByteArray) (k : Nat) (w : World) (_h1 : (k : Int) ≤ 1000000) (c0 : Al.vB (Al.bt s.data.toList k) = true) (c1 : Al.bt s.data.toList (k + 1) = 61) (c2 : ¬ Al.bt s.data.toList (k + 2) = 64) (c3 : ¬ Al.vB (Al.bt s.data.toList (k + 2)) = true) :
    Calls Try.prog 81 #[.string s, .int .i64 k] w fun e w' => e = .returned (.tuple #[.int .i64 ((Al.refStmt s.data.toList k).1 : Nat), .bool (Al.refStmt s.data.toList k).2]) ∧ w' = w := by
  have HF : Hid (Al.refStmt s.data.toList k = (k + 2, false)) := by simp [Hid, Al.refStmt, c0, c1, c2, c3]
  have l00 : leftJ s (k : Int) = (k : Int) + 1 ∧ leftB s (k : Int) = true := by
    have P00 : (k : Int) = (((k) : Nat) : Int) := by omega
    have Q00 : leftP s.data.toList k = (k + 1, true) := by simp [leftP, c0, c1]
    rw [P00, leftJ_nat, leftB_nat, Q00]
    exact ⟨by simp, rfl⟩
  obtain ⟨lj00, lb00⟩ := l00
  have l20 : leftJ s ((k : Int) + 2) = (k : Int) + 2 ∧ leftB s ((k : Int) + 2) = false := by
    have P20 : ((k : Int) + 2) = (((k + 2) : Nat) : Int) := by omega
    have Q20 : leftP s.data.toList (k + 2) = (k + 2, false) := by simp [leftP, c3]
    rw [P20, leftJ_nat, leftB_nat, Q20]
    exact ⟨by simp, rfl⟩
  obtain ⟨lj20, lb20⟩ := l20
  have l21 : leftJ s ((k : Int) + 1 + 1) = (k : Int) + 2 ∧ leftB s ((k : Int) + 1 + 1) = false := by
    have P21 : ((k : Int) + 1 + 1) = (((k + 2) : Nat) : Int) := by omega
    have Q21 : leftP s.data.toList (k + 2) = (k + 2, false) := by simp [leftP, c3]
    rw [P21, leftJ_nat, leftB_nat, Q21]
    exact ⟨by simp, rfl⟩
  obtain ⟨lj21, lb21⟩ := l21
  have f00 : 0 ≤ varI (btI s (k : Int)) := by rw [(show btI s (k : Int) = Al.bt s.data.toList k from btI_nat s k)]; exact var_yes c0
  have f10 : btI s ((k : Int) + 1) = 61 := by rw [(show btI s ((k : Int) + 1) = Al.bt s.data.toList (k + 1) from btI_add s k 1)]; omega
  have f20 : ¬ btI s ((k : Int) + 2) = 64 := by rw [(show btI s ((k : Int) + 2) = Al.bt s.data.toList (k + 2) from btI_add s k 2)]; omega
  have f21 : ¬ btI s ((k : Int) + 1 + 1) = 64 := by rw [(show btI s ((k : Int) + 1 + 1) = Al.bt s.data.toList (k + 2) from by rw [show ((k : Int) + 1 + 1) = (k : Int) + ((2 : Nat) : Int) from by omega]; exact btI_add s k 2)]; omega
  have f30 : varI (btI s ((k : Int) + 2)) < 0 := by rw [(show btI s ((k : Int) + 2) = Al.bt s.data.toList (k + 2) from btI_add s k 2)]; exact var_no c3
  have f31 : varI (btI s ((k : Int) + 1 + 1)) < 0 := by rw [(show btI s ((k : Int) + 1 + 1) = Al.bt s.data.toList (k + 2) from by rw [show ((k : Int) + 1 + 1) = (k : Int) + ((2 : Nat) : Int) from by omega]; exact btI_add s k 2)]; exact var_no c3
  clear c0 c1 c2 c3
  have g0 : ((k : Int) + 1 == (k : Int) + 3) = false := beq_eq_false_iff_ne.2 (by omega)
  go_enter Try.func81, Try.ntmps81
  go_wp2_with (first | (go_at_call 92; refine (at_any _ _ _ (by omega)).mono ?_; rintro e w' ⟨rfl, rfl⟩) | (go_at_call 57; refine (Var_any _ _ (btI_ge _ _) (btI_le _ _)).mono ?_; rintro e w' ⟨rfl, rfl⟩) | (go_at_call 53; refine (Field_any _ _ (btI_ge _ _) (btI_le _ _)).mono ?_; rintro e w' ⟨rfl, rfl⟩) | (go_at_call 58; refine (Site_any _ _ (btI_ge _ _) (btI_le _ _)).mono ?_; rintro e w' ⟨rfl, rfl⟩) | (go_at_call 91; refine (left_any _ _ _ (by omega) (by omega)).mono ?_; rintro e w' ⟨rfl, rfl⟩))
  go_ret2
  exact ⟨by simp [HF.out]; try omega, rfl⟩
set_option maxHeartbeats 400000 in
theorem Stmt_l (s : ByteArray) (k : Nat) (w : World) (_h1 : (k : Int) ≤ 1000000) (c0 : Al.vB (Al.bt s.data.toList k) = true) (c1 : Al.bt s.data.toList (k + 1) = 61) (c2 : ¬ Al.bt s.data.toList (k + 2) = 64) (c3 : Al.vB (Al.bt s.data.toList (k + 2)) = true) (c4 : Al.bt s.data.toList (k + 3) = 46) (c5 : ¬ Al.fB (Al.bt s.data.toList (k + 4)) = true) :
    Calls Try.prog 81 #[.string s, .int .i64 k] w fun e w' => e = .returned (.tuple #[.int .i64 ((Al.refStmt s.data.toList k).1 : Nat), .bool (Al.refStmt s.data.toList k).2]) ∧ w' = w := by
  have HF : Hid (Al.refStmt s.data.toList k = (k + 4, false)) := by simp [Hid, Al.refStmt, c0, c1, c2, c3, c4, c5]
  have l00 : leftJ s (k : Int) = (k : Int) + 1 ∧ leftB s (k : Int) = true := by
    have P00 : (k : Int) = (((k) : Nat) : Int) := by omega
    have Q00 : leftP s.data.toList k = (k + 1, true) := by simp [leftP, c0, c1]
    rw [P00, leftJ_nat, leftB_nat, Q00]
    exact ⟨by simp, rfl⟩
  obtain ⟨lj00, lb00⟩ := l00
  have l20 : leftJ s ((k : Int) + 2) = (k : Int) + 4 ∧ leftB s ((k : Int) + 2) = false := by
    have P20 : ((k : Int) + 2) = (((k + 2) : Nat) : Int) := by omega
    have Q20 : leftP s.data.toList (k + 2) = (k + 4, false) := by simp [leftP, c3, c4, c5]
    rw [P20, leftJ_nat, leftB_nat, Q20]
    exact ⟨by simp, rfl⟩
  obtain ⟨lj20, lb20⟩ := l20
  have l21 : leftJ s ((k : Int) + 1 + 1) = (k : Int) + 4 ∧ leftB s ((k : Int) + 1 + 1) = false := by
    have P21 : ((k : Int) + 1 + 1) = (((k + 2) : Nat) : Int) := by omega
    have Q21 : leftP s.data.toList (k + 2) = (k + 4, false) := by simp [leftP, c3, c4, c5]
    rw [P21, leftJ_nat, leftB_nat, Q21]
    exact ⟨by simp, rfl⟩
  obtain ⟨lj21, lb21⟩ := l21
  have f00 : 0 ≤ varI (btI s (k : Int)) := by rw [(show btI s (k : Int) = Al.bt s.data.toList k from btI_nat s k)]; exact var_yes c0
  have f10 : btI s ((k : Int) + 1) = 61 := by rw [(show btI s ((k : Int) + 1) = Al.bt s.data.toList (k + 1) from btI_add s k 1)]; omega
  have f20 : ¬ btI s ((k : Int) + 2) = 64 := by rw [(show btI s ((k : Int) + 2) = Al.bt s.data.toList (k + 2) from btI_add s k 2)]; omega
  have f21 : ¬ btI s ((k : Int) + 1 + 1) = 64 := by rw [(show btI s ((k : Int) + 1 + 1) = Al.bt s.data.toList (k + 2) from by rw [show ((k : Int) + 1 + 1) = (k : Int) + ((2 : Nat) : Int) from by omega]; exact btI_add s k 2)]; omega
  have f30 : 0 ≤ varI (btI s ((k : Int) + 2)) := by rw [(show btI s ((k : Int) + 2) = Al.bt s.data.toList (k + 2) from btI_add s k 2)]; exact var_yes c3
  have f31 : 0 ≤ varI (btI s ((k : Int) + 1 + 1)) := by rw [(show btI s ((k : Int) + 1 + 1) = Al.bt s.data.toList (k + 2) from by rw [show ((k : Int) + 1 + 1) = (k : Int) + ((2 : Nat) : Int) from by omega]; exact btI_add s k 2)]; exact var_yes c3
  have f40 : btI s ((k : Int) + 3) = 46 := by rw [(show btI s ((k : Int) + 3) = Al.bt s.data.toList (k + 3) from btI_add s k 3)]; omega
  have f41 : btI s ((k : Int) + 1 + 1 + 1) = 46 := by rw [(show btI s ((k : Int) + 1 + 1 + 1) = Al.bt s.data.toList (k + 3) from by rw [show ((k : Int) + 1 + 1 + 1) = (k : Int) + ((3 : Nat) : Int) from by omega]; exact btI_add s k 3)]; omega
  have f42 : btI s ((k : Int) + 2 + 1) = 46 := by rw [(show btI s ((k : Int) + 2 + 1) = Al.bt s.data.toList (k + 3) from by rw [show ((k : Int) + 2 + 1) = (k : Int) + ((3 : Nat) : Int) from by omega]; exact btI_add s k 3)]; omega
  have f50 : fieldI (btI s ((k : Int) + 4)) < 0 := by rw [(show btI s ((k : Int) + 4) = Al.bt s.data.toList (k + 4) from btI_add s k 4)]; exact field_no c5
  have f51 : fieldI (btI s ((k : Int) + 3 + 1)) < 0 := by rw [(show btI s ((k : Int) + 3 + 1) = Al.bt s.data.toList (k + 4) from by rw [show ((k : Int) + 3 + 1) = (k : Int) + ((4 : Nat) : Int) from by omega]; exact btI_add s k 4)]; exact field_no c5
  have f52 : fieldI (btI s ((k : Int) + 1 + 1 + 2)) < 0 := by rw [(show btI s ((k : Int) + 1 + 1 + 2) = Al.bt s.data.toList (k + 4) from by rw [show ((k : Int) + 1 + 1 + 2) = (k : Int) + ((4 : Nat) : Int) from by omega]; exact btI_add s k 4)]; exact field_no c5
  have f53 : fieldI (btI s ((k : Int) + 2 + 2)) < 0 := by rw [(show btI s ((k : Int) + 2 + 2) = Al.bt s.data.toList (k + 4) from by rw [show ((k : Int) + 2 + 2) = (k : Int) + ((4 : Nat) : Int) from by omega]; exact btI_add s k 4)]; exact field_no c5
  clear c0 c1 c2 c3 c4 c5
  have g0 : ((k : Int) + 1 == (k : Int) + 3) = false := beq_eq_false_iff_ne.2 (by omega)
  go_enter Try.func81, Try.ntmps81
  go_wp2_with (first | (go_at_call 92; refine (at_any _ _ _ (by omega)).mono ?_; rintro e w' ⟨rfl, rfl⟩) | (go_at_call 57; refine (Var_any _ _ (btI_ge _ _) (btI_le _ _)).mono ?_; rintro e w' ⟨rfl, rfl⟩) | (go_at_call 53; refine (Field_any _ _ (btI_ge _ _) (btI_le _ _)).mono ?_; rintro e w' ⟨rfl, rfl⟩) | (go_at_call 58; refine (Site_any _ _ (btI_ge _ _) (btI_le _ _)).mono ?_; rintro e w' ⟨rfl, rfl⟩) | (go_at_call 91; refine (left_any _ _ _ (by omega) (by omega)).mono ?_; rintro e w' ⟨rfl, rfl⟩))
  go_ret2
  exact ⟨by simp [HF.out]; try omega, rfl⟩
set_option maxHeartbeats 400000 in
theorem Stmt_m (s : ByteArray) (k : Nat) (w : World) (_h1 : (k : Int) ≤ 1000000) (c0 : Al.vB (Al.bt s.data.toList k) = true) (c1 : Al.bt s.data.toList (k + 1) = 61) (c2 : ¬ Al.bt s.data.toList (k + 2) = 64) (c3 : Al.vB (Al.bt s.data.toList (k + 2)) = true) (c4 : Al.bt s.data.toList (k + 3) = 46) (c5 : Al.fB (Al.bt s.data.toList (k + 4)) = true) (c6 : ¬ Al.bt s.data.toList (k + 5) = 59) :
    Calls Try.prog 81 #[.string s, .int .i64 k] w fun e w' => e = .returned (.tuple #[.int .i64 ((Al.refStmt s.data.toList k).1 : Nat), .bool (Al.refStmt s.data.toList k).2]) ∧ w' = w := by
  have HF : Hid (Al.refStmt s.data.toList k = (k + 5, false)) := by simp [Hid, Al.refStmt, c0, c1, c2, c3, c4, c5, c6]
  have l00 : leftJ s (k : Int) = (k : Int) + 1 ∧ leftB s (k : Int) = true := by
    have P00 : (k : Int) = (((k) : Nat) : Int) := by omega
    have Q00 : leftP s.data.toList k = (k + 1, true) := by simp [leftP, c0, c1]
    rw [P00, leftJ_nat, leftB_nat, Q00]
    exact ⟨by simp, rfl⟩
  obtain ⟨lj00, lb00⟩ := l00
  have l20 : leftJ s ((k : Int) + 2) = (k : Int) + 5 ∧ leftB s ((k : Int) + 2) = true := by
    have P20 : ((k : Int) + 2) = (((k + 2) : Nat) : Int) := by omega
    have Q20 : leftP s.data.toList (k + 2) = (k + 5, true) := by simp [leftP, c3, c4, c5]
    rw [P20, leftJ_nat, leftB_nat, Q20]
    exact ⟨by simp, rfl⟩
  obtain ⟨lj20, lb20⟩ := l20
  have l21 : leftJ s ((k : Int) + 1 + 1) = (k : Int) + 5 ∧ leftB s ((k : Int) + 1 + 1) = true := by
    have P21 : ((k : Int) + 1 + 1) = (((k + 2) : Nat) : Int) := by omega
    have Q21 : leftP s.data.toList (k + 2) = (k + 5, true) := by simp [leftP, c3, c4, c5]
    rw [P21, leftJ_nat, leftB_nat, Q21]
    exact ⟨by simp, rfl⟩
  obtain ⟨lj21, lb21⟩ := l21
  have f00 : 0 ≤ varI (btI s (k : Int)) := by rw [(show btI s (k : Int) = Al.bt s.data.toList k from btI_nat s k)]; exact var_yes c0
  have f10 : btI s ((k : Int) + 1) = 61 := by rw [(show btI s ((k : Int) + 1) = Al.bt s.data.toList (k + 1) from btI_add s k 1)]; omega
  have f20 : ¬ btI s ((k : Int) + 2) = 64 := by rw [(show btI s ((k : Int) + 2) = Al.bt s.data.toList (k + 2) from btI_add s k 2)]; omega
  have f21 : ¬ btI s ((k : Int) + 1 + 1) = 64 := by rw [(show btI s ((k : Int) + 1 + 1) = Al.bt s.data.toList (k + 2) from by rw [show ((k : Int) + 1 + 1) = (k : Int) + ((2 : Nat) : Int) from by omega]; exact btI_add s k 2)]; omega
  have f30 : 0 ≤ varI (btI s ((k : Int) + 2)) := by rw [(show btI s ((k : Int) + 2) = Al.bt s.data.toList (k + 2) from btI_add s k 2)]; exact var_yes c3
  have f31 : 0 ≤ varI (btI s ((k : Int) + 1 + 1)) := by rw [(show btI s ((k : Int) + 1 + 1) = Al.bt s.data.toList (k + 2) from by rw [show ((k : Int) + 1 + 1) = (k : Int) + ((2 : Nat) : Int) from by omega]; exact btI_add s k 2)]; exact var_yes c3
  have f40 : btI s ((k : Int) + 3) = 46 := by rw [(show btI s ((k : Int) + 3) = Al.bt s.data.toList (k + 3) from btI_add s k 3)]; omega
  have f41 : btI s ((k : Int) + 1 + 1 + 1) = 46 := by rw [(show btI s ((k : Int) + 1 + 1 + 1) = Al.bt s.data.toList (k + 3) from by rw [show ((k : Int) + 1 + 1 + 1) = (k : Int) + ((3 : Nat) : Int) from by omega]; exact btI_add s k 3)]; omega
  have f42 : btI s ((k : Int) + 2 + 1) = 46 := by rw [(show btI s ((k : Int) + 2 + 1) = Al.bt s.data.toList (k + 3) from by rw [show ((k : Int) + 2 + 1) = (k : Int) + ((3 : Nat) : Int) from by omega]; exact btI_add s k 3)]; omega
  have f50 : 0 ≤ fieldI (btI s ((k : Int) + 4)) := by rw [(show btI s ((k : Int) + 4) = Al.bt s.data.toList (k + 4) from btI_add s k 4)]; exact field_yes c5
  have f51 : 0 ≤ fieldI (btI s ((k : Int) + 3 + 1)) := by rw [(show btI s ((k : Int) + 3 + 1) = Al.bt s.data.toList (k + 4) from by rw [show ((k : Int) + 3 + 1) = (k : Int) + ((4 : Nat) : Int) from by omega]; exact btI_add s k 4)]; exact field_yes c5
  have f52 : 0 ≤ fieldI (btI s ((k : Int) + 1 + 1 + 2)) := by rw [(show btI s ((k : Int) + 1 + 1 + 2) = Al.bt s.data.toList (k + 4) from by rw [show ((k : Int) + 1 + 1 + 2) = (k : Int) + ((4 : Nat) : Int) from by omega]; exact btI_add s k 4)]; exact field_yes c5
  have f53 : 0 ≤ fieldI (btI s ((k : Int) + 2 + 2)) := by rw [(show btI s ((k : Int) + 2 + 2) = Al.bt s.data.toList (k + 4) from by rw [show ((k : Int) + 2 + 2) = (k : Int) + ((4 : Nat) : Int) from by omega]; exact btI_add s k 4)]; exact field_yes c5
  have f60 : ¬ btI s ((k : Int) + 5) = 59 := by rw [(show btI s ((k : Int) + 5) = Al.bt s.data.toList (k + 5) from btI_add s k 5)]; omega
  have f61 : ¬ btI s ((k : Int) + 3 + 1 + 1) = 59 := by rw [(show btI s ((k : Int) + 3 + 1 + 1) = Al.bt s.data.toList (k + 5) from by rw [show ((k : Int) + 3 + 1 + 1) = (k : Int) + ((5 : Nat) : Int) from by omega]; exact btI_add s k 5)]; omega
  have f62 : ¬ btI s ((k : Int) + 4 + 1) = 59 := by rw [(show btI s ((k : Int) + 4 + 1) = Al.bt s.data.toList (k + 5) from by rw [show ((k : Int) + 4 + 1) = (k : Int) + ((5 : Nat) : Int) from by omega]; exact btI_add s k 5)]; omega
  clear c0 c1 c2 c3 c4 c5 c6
  have g0 : ((k : Int) + 1 == (k : Int) + 3) = false := beq_eq_false_iff_ne.2 (by omega)
  go_enter Try.func81, Try.ntmps81
  go_wp2_with (first | (go_at_call 92; refine (at_any _ _ _ (by omega)).mono ?_; rintro e w' ⟨rfl, rfl⟩) | (go_at_call 57; refine (Var_any _ _ (btI_ge _ _) (btI_le _ _)).mono ?_; rintro e w' ⟨rfl, rfl⟩) | (go_at_call 53; refine (Field_any _ _ (btI_ge _ _) (btI_le _ _)).mono ?_; rintro e w' ⟨rfl, rfl⟩) | (go_at_call 58; refine (Site_any _ _ (btI_ge _ _) (btI_le _ _)).mono ?_; rintro e w' ⟨rfl, rfl⟩) | (go_at_call 91; refine (left_any _ _ _ (by omega) (by omega)).mono ?_; rintro e w' ⟨rfl, rfl⟩))
  go_ret2
  exact ⟨by simp [HF.out]; try omega, rfl⟩
set_option maxHeartbeats 400000 in
theorem Stmt_n (s : ByteArray) (k : Nat) (w : World) (_h1 : (k : Int) ≤ 1000000) (c0 : Al.vB (Al.bt s.data.toList k) = true) (c1 : Al.bt s.data.toList (k + 1) = 61) (c2 : ¬ Al.bt s.data.toList (k + 2) = 64) (c3 : Al.vB (Al.bt s.data.toList (k + 2)) = true) (c4 : Al.bt s.data.toList (k + 3) = 46) (c5 : Al.fB (Al.bt s.data.toList (k + 4)) = true) (c6 : Al.bt s.data.toList (k + 5) = 59) :
    Calls Try.prog 81 #[.string s, .int .i64 k] w fun e w' => e = .returned (.tuple #[.int .i64 ((Al.refStmt s.data.toList k).1 : Nat), .bool (Al.refStmt s.data.toList k).2]) ∧ w' = w := by
  have HF : Hid (Al.refStmt s.data.toList k = (k + 6, true)) := by simp [Hid, Al.refStmt, c0, c1, c2, c3, c4, c5, c6]
  have l00 : leftJ s (k : Int) = (k : Int) + 1 ∧ leftB s (k : Int) = true := by
    have P00 : (k : Int) = (((k) : Nat) : Int) := by omega
    have Q00 : leftP s.data.toList k = (k + 1, true) := by simp [leftP, c0, c1]
    rw [P00, leftJ_nat, leftB_nat, Q00]
    exact ⟨by simp, rfl⟩
  obtain ⟨lj00, lb00⟩ := l00
  have l20 : leftJ s ((k : Int) + 2) = (k : Int) + 5 ∧ leftB s ((k : Int) + 2) = true := by
    have P20 : ((k : Int) + 2) = (((k + 2) : Nat) : Int) := by omega
    have Q20 : leftP s.data.toList (k + 2) = (k + 5, true) := by simp [leftP, c3, c4, c5]
    rw [P20, leftJ_nat, leftB_nat, Q20]
    exact ⟨by simp, rfl⟩
  obtain ⟨lj20, lb20⟩ := l20
  have l21 : leftJ s ((k : Int) + 1 + 1) = (k : Int) + 5 ∧ leftB s ((k : Int) + 1 + 1) = true := by
    have P21 : ((k : Int) + 1 + 1) = (((k + 2) : Nat) : Int) := by omega
    have Q21 : leftP s.data.toList (k + 2) = (k + 5, true) := by simp [leftP, c3, c4, c5]
    rw [P21, leftJ_nat, leftB_nat, Q21]
    exact ⟨by simp, rfl⟩
  obtain ⟨lj21, lb21⟩ := l21
  have f00 : 0 ≤ varI (btI s (k : Int)) := by rw [(show btI s (k : Int) = Al.bt s.data.toList k from btI_nat s k)]; exact var_yes c0
  have f10 : btI s ((k : Int) + 1) = 61 := by rw [(show btI s ((k : Int) + 1) = Al.bt s.data.toList (k + 1) from btI_add s k 1)]; omega
  have f20 : ¬ btI s ((k : Int) + 2) = 64 := by rw [(show btI s ((k : Int) + 2) = Al.bt s.data.toList (k + 2) from btI_add s k 2)]; omega
  have f21 : ¬ btI s ((k : Int) + 1 + 1) = 64 := by rw [(show btI s ((k : Int) + 1 + 1) = Al.bt s.data.toList (k + 2) from by rw [show ((k : Int) + 1 + 1) = (k : Int) + ((2 : Nat) : Int) from by omega]; exact btI_add s k 2)]; omega
  have f30 : 0 ≤ varI (btI s ((k : Int) + 2)) := by rw [(show btI s ((k : Int) + 2) = Al.bt s.data.toList (k + 2) from btI_add s k 2)]; exact var_yes c3
  have f31 : 0 ≤ varI (btI s ((k : Int) + 1 + 1)) := by rw [(show btI s ((k : Int) + 1 + 1) = Al.bt s.data.toList (k + 2) from by rw [show ((k : Int) + 1 + 1) = (k : Int) + ((2 : Nat) : Int) from by omega]; exact btI_add s k 2)]; exact var_yes c3
  have f40 : btI s ((k : Int) + 3) = 46 := by rw [(show btI s ((k : Int) + 3) = Al.bt s.data.toList (k + 3) from btI_add s k 3)]; omega
  have f41 : btI s ((k : Int) + 1 + 1 + 1) = 46 := by rw [(show btI s ((k : Int) + 1 + 1 + 1) = Al.bt s.data.toList (k + 3) from by rw [show ((k : Int) + 1 + 1 + 1) = (k : Int) + ((3 : Nat) : Int) from by omega]; exact btI_add s k 3)]; omega
  have f42 : btI s ((k : Int) + 2 + 1) = 46 := by rw [(show btI s ((k : Int) + 2 + 1) = Al.bt s.data.toList (k + 3) from by rw [show ((k : Int) + 2 + 1) = (k : Int) + ((3 : Nat) : Int) from by omega]; exact btI_add s k 3)]; omega
  have f50 : 0 ≤ fieldI (btI s ((k : Int) + 4)) := by rw [(show btI s ((k : Int) + 4) = Al.bt s.data.toList (k + 4) from btI_add s k 4)]; exact field_yes c5
  have f51 : 0 ≤ fieldI (btI s ((k : Int) + 3 + 1)) := by rw [(show btI s ((k : Int) + 3 + 1) = Al.bt s.data.toList (k + 4) from by rw [show ((k : Int) + 3 + 1) = (k : Int) + ((4 : Nat) : Int) from by omega]; exact btI_add s k 4)]; exact field_yes c5
  have f52 : 0 ≤ fieldI (btI s ((k : Int) + 1 + 1 + 2)) := by rw [(show btI s ((k : Int) + 1 + 1 + 2) = Al.bt s.data.toList (k + 4) from by rw [show ((k : Int) + 1 + 1 + 2) = (k : Int) + ((4 : Nat) : Int) from by omega]; exact btI_add s k 4)]; exact field_yes c5
  have f53 : 0 ≤ fieldI (btI s ((k : Int) + 2 + 2)) := by rw [(show btI s ((k : Int) + 2 + 2) = Al.bt s.data.toList (k + 4) from by rw [show ((k : Int) + 2 + 2) = (k : Int) + ((4 : Nat) : Int) from by omega]; exact btI_add s k 4)]; exact field_yes c5
  have f60 : btI s ((k : Int) + 5) = 59 := by rw [(show btI s ((k : Int) + 5) = Al.bt s.data.toList (k + 5) from btI_add s k 5)]; omega
  have f61 : btI s ((k : Int) + 3 + 1 + 1) = 59 := by rw [(show btI s ((k : Int) + 3 + 1 + 1) = Al.bt s.data.toList (k + 5) from by rw [show ((k : Int) + 3 + 1 + 1) = (k : Int) + ((5 : Nat) : Int) from by omega]; exact btI_add s k 5)]; omega
  have f62 : btI s ((k : Int) + 4 + 1) = 59 := by rw [(show btI s ((k : Int) + 4 + 1) = Al.bt s.data.toList (k + 5) from by rw [show ((k : Int) + 4 + 1) = (k : Int) + ((5 : Nat) : Int) from by omega]; exact btI_add s k 5)]; omega
  clear c0 c1 c2 c3 c4 c5 c6
  have g0 : ((k : Int) + 1 == (k : Int) + 3) = false := beq_eq_false_iff_ne.2 (by omega)
  go_enter Try.func81, Try.ntmps81
  go_wp2_with (first | (go_at_call 92; refine (at_any _ _ _ (by omega)).mono ?_; rintro e w' ⟨rfl, rfl⟩) | (go_at_call 57; refine (Var_any _ _ (btI_ge _ _) (btI_le _ _)).mono ?_; rintro e w' ⟨rfl, rfl⟩) | (go_at_call 53; refine (Field_any _ _ (btI_ge _ _) (btI_le _ _)).mono ?_; rintro e w' ⟨rfl, rfl⟩) | (go_at_call 58; refine (Site_any _ _ (btI_ge _ _) (btI_le _ _)).mono ?_; rintro e w' ⟨rfl, rfl⟩) | (go_at_call 91; refine (left_any _ _ _ (by omega) (by omega)).mono ?_; rintro e w' ⟨rfl, rfl⟩))
  go_ret2
  exact ⟨by simp [HF.out]; try omega, rfl⟩
set_option maxHeartbeats 400000 in
theorem Stmt_o (s : ByteArray) (k : Nat) (w : World) (_h1 : (k : Int) ≤ 1000000) (c0 : Al.vB (Al.bt s.data.toList k) = true) (c1 : Al.bt s.data.toList (k + 1) = 61) (c2 : ¬ Al.bt s.data.toList (k + 2) = 64) (c3 : Al.vB (Al.bt s.data.toList (k + 2)) = true) (c4 : ¬ Al.bt s.data.toList (k + 3) = 46) (c5 : Al.bt s.data.toList (k + 3) = 59) :
    Calls Try.prog 81 #[.string s, .int .i64 k] w fun e w' => e = .returned (.tuple #[.int .i64 ((Al.refStmt s.data.toList k).1 : Nat), .bool (Al.refStmt s.data.toList k).2]) ∧ w' = w := by
  have HF : Hid (Al.refStmt s.data.toList k = (k + 4, true)) := by simp [Hid, Al.refStmt, c0, c1, c2, c3, c5]
  have l00 : leftJ s (k : Int) = (k : Int) + 1 ∧ leftB s (k : Int) = true := by
    have P00 : (k : Int) = (((k) : Nat) : Int) := by omega
    have Q00 : leftP s.data.toList k = (k + 1, true) := by simp [leftP, c0, c1]
    rw [P00, leftJ_nat, leftB_nat, Q00]
    exact ⟨by simp, rfl⟩
  obtain ⟨lj00, lb00⟩ := l00
  have l20 : leftJ s ((k : Int) + 2) = (k : Int) + 3 ∧ leftB s ((k : Int) + 2) = true := by
    have P20 : ((k : Int) + 2) = (((k + 2) : Nat) : Int) := by omega
    have Q20 : leftP s.data.toList (k + 2) = (k + 3, true) := by simp [leftP, c3, c4]
    rw [P20, leftJ_nat, leftB_nat, Q20]
    exact ⟨by simp, rfl⟩
  obtain ⟨lj20, lb20⟩ := l20
  have l21 : leftJ s ((k : Int) + 1 + 1) = (k : Int) + 3 ∧ leftB s ((k : Int) + 1 + 1) = true := by
    have P21 : ((k : Int) + 1 + 1) = (((k + 2) : Nat) : Int) := by omega
    have Q21 : leftP s.data.toList (k + 2) = (k + 3, true) := by simp [leftP, c3, c4]
    rw [P21, leftJ_nat, leftB_nat, Q21]
    exact ⟨by simp, rfl⟩
  obtain ⟨lj21, lb21⟩ := l21
  have f00 : 0 ≤ varI (btI s (k : Int)) := by rw [(show btI s (k : Int) = Al.bt s.data.toList k from btI_nat s k)]; exact var_yes c0
  have f10 : btI s ((k : Int) + 1) = 61 := by rw [(show btI s ((k : Int) + 1) = Al.bt s.data.toList (k + 1) from btI_add s k 1)]; omega
  have f20 : ¬ btI s ((k : Int) + 2) = 64 := by rw [(show btI s ((k : Int) + 2) = Al.bt s.data.toList (k + 2) from btI_add s k 2)]; omega
  have f21 : ¬ btI s ((k : Int) + 1 + 1) = 64 := by rw [(show btI s ((k : Int) + 1 + 1) = Al.bt s.data.toList (k + 2) from by rw [show ((k : Int) + 1 + 1) = (k : Int) + ((2 : Nat) : Int) from by omega]; exact btI_add s k 2)]; omega
  have f30 : 0 ≤ varI (btI s ((k : Int) + 2)) := by rw [(show btI s ((k : Int) + 2) = Al.bt s.data.toList (k + 2) from btI_add s k 2)]; exact var_yes c3
  have f31 : 0 ≤ varI (btI s ((k : Int) + 1 + 1)) := by rw [(show btI s ((k : Int) + 1 + 1) = Al.bt s.data.toList (k + 2) from by rw [show ((k : Int) + 1 + 1) = (k : Int) + ((2 : Nat) : Int) from by omega]; exact btI_add s k 2)]; exact var_yes c3
  have f40 : ¬ btI s ((k : Int) + 3) = 46 := by rw [(show btI s ((k : Int) + 3) = Al.bt s.data.toList (k + 3) from btI_add s k 3)]; omega
  have f41 : ¬ btI s ((k : Int) + 1 + 1 + 1) = 46 := by rw [(show btI s ((k : Int) + 1 + 1 + 1) = Al.bt s.data.toList (k + 3) from by rw [show ((k : Int) + 1 + 1 + 1) = (k : Int) + ((3 : Nat) : Int) from by omega]; exact btI_add s k 3)]; omega
  have f42 : ¬ btI s ((k : Int) + 2 + 1) = 46 := by rw [(show btI s ((k : Int) + 2 + 1) = Al.bt s.data.toList (k + 3) from by rw [show ((k : Int) + 2 + 1) = (k : Int) + ((3 : Nat) : Int) from by omega]; exact btI_add s k 3)]; omega
  have f50 : btI s ((k : Int) + 3) = 59 := by rw [(show btI s ((k : Int) + 3) = Al.bt s.data.toList (k + 3) from btI_add s k 3)]; omega
  have f51 : btI s ((k : Int) + 1 + 1 + 1) = 59 := by rw [(show btI s ((k : Int) + 1 + 1 + 1) = Al.bt s.data.toList (k + 3) from by rw [show ((k : Int) + 1 + 1 + 1) = (k : Int) + ((3 : Nat) : Int) from by omega]; exact btI_add s k 3)]; omega
  have f52 : btI s ((k : Int) + 2 + 1) = 59 := by rw [(show btI s ((k : Int) + 2 + 1) = Al.bt s.data.toList (k + 3) from by rw [show ((k : Int) + 2 + 1) = (k : Int) + ((3 : Nat) : Int) from by omega]; exact btI_add s k 3)]; omega
  clear c0 c1 c2 c3 c4 c5
  have g0 : ((k : Int) + 1 == (k : Int) + 3) = false := beq_eq_false_iff_ne.2 (by omega)
  go_enter Try.func81, Try.ntmps81
  go_wp2_with (first | (go_at_call 92; refine (at_any _ _ _ (by omega)).mono ?_; rintro e w' ⟨rfl, rfl⟩) | (go_at_call 57; refine (Var_any _ _ (btI_ge _ _) (btI_le _ _)).mono ?_; rintro e w' ⟨rfl, rfl⟩) | (go_at_call 53; refine (Field_any _ _ (btI_ge _ _) (btI_le _ _)).mono ?_; rintro e w' ⟨rfl, rfl⟩) | (go_at_call 58; refine (Site_any _ _ (btI_ge _ _) (btI_le _ _)).mono ?_; rintro e w' ⟨rfl, rfl⟩) | (go_at_call 91; refine (left_any _ _ _ (by omega) (by omega)).mono ?_; rintro e w' ⟨rfl, rfl⟩))
  go_ret2
  exact ⟨by simp [HF.out]; try omega, rfl⟩
set_option maxHeartbeats 400000 in
theorem Stmt_p (s : ByteArray) (k : Nat) (w : World) (_h1 : (k : Int) ≤ 1000000) (c0 : Al.vB (Al.bt s.data.toList k) = true) (c1 : Al.bt s.data.toList (k + 1) = 61) (c2 : ¬ Al.bt s.data.toList (k + 2) = 64) (c3 : Al.vB (Al.bt s.data.toList (k + 2)) = true) (c4 : ¬ Al.bt s.data.toList (k + 3) = 46) (c5 : ¬ Al.bt s.data.toList (k + 3) = 59) :
    Calls Try.prog 81 #[.string s, .int .i64 k] w fun e w' => e = .returned (.tuple #[.int .i64 ((Al.refStmt s.data.toList k).1 : Nat), .bool (Al.refStmt s.data.toList k).2]) ∧ w' = w := by
  have HF : Hid (Al.refStmt s.data.toList k = (k + 3, false)) := by simp [Hid, Al.refStmt, c0, c1, c2, c3, c4, c5]
  have l00 : leftJ s (k : Int) = (k : Int) + 1 ∧ leftB s (k : Int) = true := by
    have P00 : (k : Int) = (((k) : Nat) : Int) := by omega
    have Q00 : leftP s.data.toList k = (k + 1, true) := by simp [leftP, c0, c1]
    rw [P00, leftJ_nat, leftB_nat, Q00]
    exact ⟨by simp, rfl⟩
  obtain ⟨lj00, lb00⟩ := l00
  have l20 : leftJ s ((k : Int) + 2) = (k : Int) + 3 ∧ leftB s ((k : Int) + 2) = true := by
    have P20 : ((k : Int) + 2) = (((k + 2) : Nat) : Int) := by omega
    have Q20 : leftP s.data.toList (k + 2) = (k + 3, true) := by simp [leftP, c3, c4]
    rw [P20, leftJ_nat, leftB_nat, Q20]
    exact ⟨by simp, rfl⟩
  obtain ⟨lj20, lb20⟩ := l20
  have l21 : leftJ s ((k : Int) + 1 + 1) = (k : Int) + 3 ∧ leftB s ((k : Int) + 1 + 1) = true := by
    have P21 : ((k : Int) + 1 + 1) = (((k + 2) : Nat) : Int) := by omega
    have Q21 : leftP s.data.toList (k + 2) = (k + 3, true) := by simp [leftP, c3, c4]
    rw [P21, leftJ_nat, leftB_nat, Q21]
    exact ⟨by simp, rfl⟩
  obtain ⟨lj21, lb21⟩ := l21
  have f00 : 0 ≤ varI (btI s (k : Int)) := by rw [(show btI s (k : Int) = Al.bt s.data.toList k from btI_nat s k)]; exact var_yes c0
  have f10 : btI s ((k : Int) + 1) = 61 := by rw [(show btI s ((k : Int) + 1) = Al.bt s.data.toList (k + 1) from btI_add s k 1)]; omega
  have f20 : ¬ btI s ((k : Int) + 2) = 64 := by rw [(show btI s ((k : Int) + 2) = Al.bt s.data.toList (k + 2) from btI_add s k 2)]; omega
  have f21 : ¬ btI s ((k : Int) + 1 + 1) = 64 := by rw [(show btI s ((k : Int) + 1 + 1) = Al.bt s.data.toList (k + 2) from by rw [show ((k : Int) + 1 + 1) = (k : Int) + ((2 : Nat) : Int) from by omega]; exact btI_add s k 2)]; omega
  have f30 : 0 ≤ varI (btI s ((k : Int) + 2)) := by rw [(show btI s ((k : Int) + 2) = Al.bt s.data.toList (k + 2) from btI_add s k 2)]; exact var_yes c3
  have f31 : 0 ≤ varI (btI s ((k : Int) + 1 + 1)) := by rw [(show btI s ((k : Int) + 1 + 1) = Al.bt s.data.toList (k + 2) from by rw [show ((k : Int) + 1 + 1) = (k : Int) + ((2 : Nat) : Int) from by omega]; exact btI_add s k 2)]; exact var_yes c3
  have f40 : ¬ btI s ((k : Int) + 3) = 46 := by rw [(show btI s ((k : Int) + 3) = Al.bt s.data.toList (k + 3) from btI_add s k 3)]; omega
  have f41 : ¬ btI s ((k : Int) + 1 + 1 + 1) = 46 := by rw [(show btI s ((k : Int) + 1 + 1 + 1) = Al.bt s.data.toList (k + 3) from by rw [show ((k : Int) + 1 + 1 + 1) = (k : Int) + ((3 : Nat) : Int) from by omega]; exact btI_add s k 3)]; omega
  have f42 : ¬ btI s ((k : Int) + 2 + 1) = 46 := by rw [(show btI s ((k : Int) + 2 + 1) = Al.bt s.data.toList (k + 3) from by rw [show ((k : Int) + 2 + 1) = (k : Int) + ((3 : Nat) : Int) from by omega]; exact btI_add s k 3)]; omega
  have f50 : ¬ btI s ((k : Int) + 3) = 59 := by rw [(show btI s ((k : Int) + 3) = Al.bt s.data.toList (k + 3) from btI_add s k 3)]; omega
  have f51 : ¬ btI s ((k : Int) + 1 + 1 + 1) = 59 := by rw [(show btI s ((k : Int) + 1 + 1 + 1) = Al.bt s.data.toList (k + 3) from by rw [show ((k : Int) + 1 + 1 + 1) = (k : Int) + ((3 : Nat) : Int) from by omega]; exact btI_add s k 3)]; omega
  have f52 : ¬ btI s ((k : Int) + 2 + 1) = 59 := by rw [(show btI s ((k : Int) + 2 + 1) = Al.bt s.data.toList (k + 3) from by rw [show ((k : Int) + 2 + 1) = (k : Int) + ((3 : Nat) : Int) from by omega]; exact btI_add s k 3)]; omega
  clear c0 c1 c2 c3 c4 c5
  have g0 : ((k : Int) + 1 == (k : Int) + 3) = false := beq_eq_false_iff_ne.2 (by omega)
  go_enter Try.func81, Try.ntmps81
  go_wp2_with (first | (go_at_call 92; refine (at_any _ _ _ (by omega)).mono ?_; rintro e w' ⟨rfl, rfl⟩) | (go_at_call 57; refine (Var_any _ _ (btI_ge _ _) (btI_le _ _)).mono ?_; rintro e w' ⟨rfl, rfl⟩) | (go_at_call 53; refine (Field_any _ _ (btI_ge _ _) (btI_le _ _)).mono ?_; rintro e w' ⟨rfl, rfl⟩) | (go_at_call 58; refine (Site_any _ _ (btI_ge _ _) (btI_le _ _)).mono ?_; rintro e w' ⟨rfl, rfl⟩) | (go_at_call 91; refine (left_any _ _ _ (by omega) (by omega)).mono ?_; rintro e w' ⟨rfl, rfl⟩))
  go_ret2
  exact ⟨by simp [HF.out]; try omega, rfl⟩
end Go.Proofs.Ytljafkdaljkanaa
