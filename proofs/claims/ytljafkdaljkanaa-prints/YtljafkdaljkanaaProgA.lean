import Derived.Test.YtljafkdaljkanaaRefE
import Derived.Test.YtljafkdaljkanaaParse
namespace Go.Proofs.Ytljafkdaljkanaa
open Go.RowKit

set_option maxHeartbeats 400000 in
theorem shapeOf_any (k : Nat) (w : World) :
    Calls Try.prog 71 #[.int .i64 k] w fun e w' => e = .returned (.string (bs (Al.shp k))) ∧ w' = w := by
  by_cases h0 : k = 0
  · subst h0
    go_enter Try.func71, Try.ntmps71
    go_wp2
    go_ret
    exact ⟨rfl, rfl⟩
  by_cases h1 : k = 1
  · subst h1
    go_enter Try.func71, Try.ntmps71
    go_wp2
    go_ret
    exact ⟨rfl, rfl⟩
  by_cases h2 : k = 2
  · subst h2
    go_enter Try.func71, Try.ntmps71
    go_wp2
    go_ret
    exact ⟨rfl, rfl⟩
  have HF : Hid (Al.shp k = [120, 46, 102, 61, 121, 59]) := by rw [Hid, Al.shp, if_neg h0, if_neg h1, if_neg h2]
  go_enter Try.func71, Try.ntmps71
  go_wp2
  go_ret
  exact ⟨by rw [HF.out]; rfl, rfl⟩

/-- Three tests alike: does b lie between two bytes? -/
theorem fitB_x (b : Nat) : Al.fitB 120 b = Al.vB b := rfl
theorem fitB_y (b : Nat) : Al.fitB 121 b = Al.vB b := rfl
theorem fitB_o (b : Nat) : Al.fitB 111 b = Al.oB b := rfl
theorem fitB_f (b : Nat) : Al.fitB 102 b = Al.fB b := rfl
theorem fitB_else (m b : Nat) (h1 : m ≠ 120) (h2 : m ≠ 121) (h3 : m ≠ 111) (h4 : m ≠ 102) : Al.fitB m b = (b == m) := by
  unfold Al.fitB; rw [if_neg (by omega), if_neg h3, if_neg h4]

set_option maxHeartbeats 1000000 in
theorem fits_any (m b : Nat) (w : World) : Calls Try.prog 75 #[.int .u8 m, .int .u8 b] w fun e w' => e = .returned (.bool (Al.fitB m b)) ∧ w' = w := by
  by_cases h1 : m = 120 ∨ m = 121
  · have HF : Hid (Al.fitB m b = Al.vB b) := by rcases h1 with rfl | rfl <;> rfl
    by_cases a1 : 97 ≤ b
    · by_cases a2 : b ≤ 108
      · have HV : Hid (Al.vB b = true) := by simp [Hid, Al.vB, a1, a2]
        rcases h1 with rfl | rfl <;>
        · go_enter Try.func75, Try.ntmps75
          go_wp2
          go_ret
          exact ⟨by rw [HF.out, HV.out]; first | rfl | (simp; omega), rfl⟩
      · have HV : Hid (Al.vB b = false) := by simp [Hid, Al.vB, a2]
        rcases h1 with rfl | rfl <;>
        · go_enter Try.func75, Try.ntmps75
          go_wp2
          go_ret
          exact ⟨by rw [HF.out, HV.out]; first | rfl | (simp; omega), rfl⟩
    · have HV : Hid (Al.vB b = false) := by simp [Hid, Al.vB, a1]
      have hd : decide ((97 : Int) ≤ (b : Int)) = false := by simp; omega
      rcases h1 with rfl | rfl <;>
      · go_enter Try.func75, Try.ntmps75
        go_wp2
        go_ret
        exact ⟨by rw [HF.out, HV.out]; first | rfl | (simp; omega), rfl⟩
  by_cases h3 : m = 111
  · subst h3
    by_cases a1 : 65 ≤ b
    · by_cases a2 : b ≤ 76
      · have HV : Hid (Al.oB b = true) := by simp [Hid, Al.oB, a1, a2]
        go_enter Try.func75, Try.ntmps75
        go_wp2
        go_ret
        exact ⟨by rw [fitB_o, HV.out]; first | rfl | (simp; omega), rfl⟩
      · have HV : Hid (Al.oB b = false) := by simp [Hid, Al.oB, a2]
        go_enter Try.func75, Try.ntmps75
        go_wp2
        go_ret
        exact ⟨by rw [fitB_o, HV.out]; first | rfl | (simp; omega), rfl⟩
    · have HV : Hid (Al.oB b = false) := by simp [Hid, Al.oB, a1]
      have hd : decide ((65 : Int) ≤ (b : Int)) = false := by simp; omega
      go_enter Try.func75, Try.ntmps75
      go_wp2
      go_ret
      exact ⟨by rw [fitB_o, HV.out]; first | rfl | (simp; omega), rfl⟩
  by_cases h4 : m = 102
  · subst h4
    by_cases a1 : 48 ≤ b
    · by_cases a2 : b ≤ 53
      · have HV : Hid (Al.fB b = true) := by simp [Hid, Al.fB, a1, a2]
        go_enter Try.func75, Try.ntmps75
        go_wp2
        go_ret
        exact ⟨by rw [fitB_f, HV.out]; first | rfl | (simp; omega), rfl⟩
      · have HV : Hid (Al.fB b = false) := by simp [Hid, Al.fB, a2]
        go_enter Try.func75, Try.ntmps75
        go_wp2
        go_ret
        exact ⟨by rw [fitB_f, HV.out]; first | rfl | (simp; omega), rfl⟩
    · have HV : Hid (Al.fB b = false) := by simp [Hid, Al.fB, a1]
      have hd : decide ((48 : Int) ≤ (b : Int)) = false := by simp; omega
      go_enter Try.func75, Try.ntmps75
      go_wp2
      go_ret
      exact ⟨by rw [fitB_f, HV.out]; first | rfl | (simp; omega), rfl⟩
  have HF : Hid (Al.fitB m b = (b == m)) := fitB_else m b (by omega) (by omega) h3 h4
  by_cases e : b = m
  · subst e
    go_enter Try.func75, Try.ntmps75
    go_wp2
    go_ret
    exact ⟨by rw [HF.out]; simp, rfl⟩
  · have hne : ((b : Int) == (m : Int)) = false := beq_eq_false_iff_ne.2 (by omega)
    have h1a : m ≠ 120 := by omega
    have h1b : m ≠ 121 := by omega
    go_enter Try.func75, Try.ntmps75
    go_wp2
    go_ret
    exact ⟨by rw [HF.out]; simp [e], rfl⟩

theorem index_sum (s : ByteArray) (i k : Nat) (h : i + k < s.size) (wx : World) : (Instr.index 9 (.string s) (.int .i64 ((i : Int) + (k : Int)))).run Try.prog wx = .ok (.int .u8 s[i + k].toNat) wx := by
  have e : ((i : Int) + (k : Int)).toNat = i + k := by omega
  rw [run_index_string (P := Try.prog) wx 9 s .i64 _ Try.underlying9, dif_pos ⟨by omega, by omega⟩]
  simp [e]
theorem fitN_step {m b : UInt8} {ms u : List UInt8} (h : Al.fitB m.toNat b.toNat = true) : Al.fitN (m :: ms) (b :: u) = Al.fitN ms u + 1 := by simp [Al.fitN, h]
theorem fitN_stop {m b : UInt8} {ms u : List UInt8} (h : Al.fitB m.toNat b.toNat = false) : Al.fitN (m :: ms) (b :: u) = 0 := by simp [Al.fitN, h]
theorem fitN_right (ms : List UInt8) : Al.fitN ms [] = 0 := by cases ms <;> simp [Al.fitN]

set_option maxHeartbeats 1000000 in
theorem fitting_any (q s : ByteArray) (i : Nat) (w : World) (hq : q.size ≤ 1000) (hi : i ≤ 1000000) :
    Calls Try.prog 93 #[.string q, .string s, .int .i64 i] w fun e w' => e = .returned (.int .i64 (Al.fitN q.data.toList (s.data.toList.drop i) : Nat)) ∧ ∃ n, w' = w.drewN n := by
  go_enter Try.func93, Try.ntmps93
  go_wp2
  go_loopw [7] (fun i7 wr => ∃ k : Nat, k ≤ q.size ∧ i7 = .int .i64 k ∧ Al.fitN q.data.toList (s.data.toList.drop i) = k + Al.fitN (q.data.toList.drop k) (s.data.toList.drop (i + k)) ∧ ∃ n, wr = w.drewN n) (fun i7 _ => q.size - (intOf i7).toNat)
  case atStart => exact ⟨0, Nat.zero_le _, rfl, by simp, 0, rfl⟩
  case round =>
    obtain ⟨k, hk, rfl, hf, n, hwr⟩ := hrel
    have HF := hid hf
    have HW := hid hwr
    clear hf hwr
    by_cases l1 : k < q.size
    · by_cases l2 : i + k < s.size
      · have hcast : ((i : Int) + (k : Int)) < (s.size : Int) := by omega
        have hwr : IntKind.i64.wrap ((i : Int) + (k : Int)) = (i : Int) + (k : Int) := IntWalk.i64_in _ ⟨by omega, by omega⟩
        have hix := index_sum s i k l2
        cases hb : Al.fitB q[k].toNat s[i + k].toNat with
        | true =>
          have HB := hid hb
          clear hb
          have hft := fits_any q[k].toNat s[i + k].toNat
          rw [HB.out] at hft
          have HFT := hid hft
          clear hft
          go_wp2_with fail
          go_quiet ((go_at_call 75; exact Calls.quiet_of_same (HFT.out _)))
          go_wp2_with fail
          go_roundw
          case rel => exact ⟨k + 1, by omega, by go_num, by rw [HF.out, drop_cons q k l1, drop_cons s (i + k) l2, fitN_step HB.out, Nat.add_assoc i k 1]; omega, drew_more HW _⟩
          case measure => simp [intOf]; omega
        | false =>
          have HB := hid hb
          clear hb
          have hft := fits_any q[k].toNat s[i + k].toNat
          rw [HB.out] at hft
          have HFT := hid hft
          clear hft
          go_wp2_with fail
          go_quiet ((go_at_call 75; exact Calls.quiet_of_same (HFT.out _)))
          go_wp2_with fail
          go_ret
          exact ⟨by rw [HF.out, drop_cons q k l1, drop_cons s (i + k) l2, fitN_stop HB.out]; simp, drew_more HW _⟩
      · have hd : decide ((i : Int) + (k : Int) < (s.size : Int)) = false := by simp; omega
        go_wp2_with fail
        go_quiet (fail)
        go_wp2_with fail
        go_ret
        exact ⟨by rw [HF.out, drop_end s (i + k) (by omega), fitN_right]; simp, drew_more HW _⟩
    · have hd : decide ((k : Int) < (q.size : Int)) = false := by simp; omega
      go_wp2_with fail
      go_quiet (fail)
      go_wp2_with fail
      go_ret
      exact ⟨by rw [HF.out, drop_end q k (by omega), Al.fitN_nil]; simp, drew_more HW _⟩
end Go.Proofs.Ytljafkdaljkanaa
