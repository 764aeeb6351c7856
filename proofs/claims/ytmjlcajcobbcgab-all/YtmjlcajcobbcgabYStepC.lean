import Derived.Test.YtmjlcajcobbcgabYStepB
import Derived.Test.YtmjlcajcobbcgabYPrintB
import Derived.Test.YtmjlcajcobbcgabYAsk
namespace Go.Proofs.Ytmjlcajcobbcgab
open Go.RowKit

set_option maxRecDepth 100000 in
set_option maxHeartbeats 1000000 in
theorem step_refine (hRf : RefineOk) (x m : Nat) (A : List Al.St) (W : Int) (s t u : ByteArray) (w : World) (hp : Pr w x m A) :
    Calls Try.prog 23 #[.agg #[.pointer (some ⟨x, 0, none⟩), .pointer (some ⟨m, 0, none⟩)], .agg #[.int .i64 8, .int .i64 W, .string s, .string t, .string u]] w fun e w' => e = .returned (.bool true) ∧ (∃ A', Pr w' x m A') ∧ Fr x m w w' := by
  have HP := hid hp
  have HA := hid (fun wx (h : ASess wx x A) => hRf x A s.data.toList wx h hp.good hp.small)
  have HR := hid (fun wx (h : RSess wx m A) => rRefine_any m A s.data.toList wx h hp.good hp.small)
  rw [bs_back] at HA HR
  have hbt := bs_toList
  have HN := hid num_any
  clear hp
  generalize refineP A s.data.toList = R at *
  obtain ⟨R1, R2⟩ := R
  simp only at HA HR
  go_enter Try.func23, Try.ntmps23
  go_wp2_with fail
  obtain ⟨n0, n1, hbw, hsz⟩ := two_new w #[.pointer (some ⟨x, 0, none⟩), .pointer (some ⟨m, 0, none⟩)] #[.int .i64 8, .int .i64 W, .string s, .string t, .string u] 50 30
  generalize (w.alloc (.cells #[.pointer (some ⟨x, 0, none⟩), .pointer (some ⟨m, 0, none⟩)] 50)).alloc (.cells #[.int .i64 8, .int .i64 W, .string s, .string t, .string u] 30) = W1 at *
  have hp1 := HP.out.below hbw
  refine (HA.out _ hp1.a).mono ?_
  rintro e w1 ⟨rfl, hb1⟩
  have p1 : w1.cell? ⟨w.heap.size, 1, none⟩ = some (.pointer (some ⟨m, 0, none⟩)) := cell_below hb1 (block_cell (j := 1) n0) (by omega)
  have p2 : w1.cell? ⟨w.heap.size + 1, 2, none⟩ = some (.string s) := cell_below hb1 (block_cell (j := 2) n1) (by omega)
  have hs1 := hb1.size
  have hp2 := hp1.below hb1
  have HF := hid (Fr.trans (x := x) (m := m) (Fr.of_below hbw) (Fr.of_below hb1))
  have HP2 := hid hp2
  clear n0 n1 hb1 hbw hp1 hp2
  go_wp2_with fail
  refine (HR.out _ HP2.out.r).mono ?_
  rintro e w2 ⟨rfl, hb2⟩
  have HF2 := hid (HF.out.trans (Fr.of_below hb2))
  have HP3 := hid (HP2.out.below hb2)
  clear hb2
  go_wp2_with (go_at_call 15; refine (HN.out _ _).mono ?_; rintro e w' ⟨rfl, rfl⟩)
  go_ret
  exact ⟨rfl, ⟨A, HP3.out⟩, HF2.out⟩

theorem bytes_one {s : ByteArray} {c : UInt8} (h : s.data.toList = [c]) : s = bs [c] := by rw [← bs_back s, h]

set_option maxRecDepth 100000 in
set_option maxHeartbeats 1000000 in
theorem why_any (hWy : WhyOk) (x m : Nat) (A : List Al.St) (W : Int) (s t u : ByteArray) (w : World) (hp : Pr w x m A) :
    Calls Try.prog 53 #[.agg #[.pointer (some ⟨x, 0, none⟩), .pointer (some ⟨m, 0, none⟩)], .agg #[.int .i64 9, .int .i64 W, .string s, .string t, .string u]] w fun e w' => e = .returned (.bool true) ∧ Below w.heap.size w w' := by
  have HP := hid hp
  have HA := hid (fun wx (h : ASess wx x A) => hWy x A s.data.toList t.data.toList wx h hp.good hp.small)
  have HR := hid (fun wx (h : RSess wx m A) => rWhy_any m A s.data.toList t.data.toList wx h hp.good hp.small)
  have HRE := hid (fun (r : List UInt8) v o k Q wx vA (h1 : ReasonOf A r v o k Q) (h2 : RdS wx vA (A.map Al.txt)) h3 => Reason_ok A r v o k Q vA wx h1 h2 hp.good h3)
  rw [bs_back, bs_back] at HA HR
  have HN := hid num_any
  have hbt := bs_toList
  clear hp
  by_cases he : whyE A s.data.toList t.data.toList = 0
  · obtain ⟨c, d, hs, ht⟩ := whyE_zero he
    rw [he] at HA HR
    obtain rfl := bytes_one hs
    obtain rfl := bytes_one ht
    have ic := ix [c] 0 0 c.toNat rfl rfl
    have id' := ix [d] 0 0 d.toNat rfl rfl
    clear he
    go_enter Try.func53, Try.ntmps53
    go_wp2_with fail
    obtain ⟨n0, n1, hbw, hsz⟩ := two_new w #[.pointer (some ⟨x, 0, none⟩), .pointer (some ⟨m, 0, none⟩)] #[.int .i64 9, .int .i64 W, .string (bs [c]), .string (bs [d]), .string u] 50 30
    generalize (w.alloc (.cells #[.pointer (some ⟨x, 0, none⟩), .pointer (some ⟨m, 0, none⟩)] 50)).alloc (.cells #[.int .i64 9, .int .i64 W, .string (bs [c]), .string (bs [d]), .string u] 30) = W1 at *
    have hp1 := HP.out.below hbw
    refine (HA.out _ hp1.a).mono ?_
    rintro e w1 ⟨r, rfl, _, hrs, hb1⟩
    obtain ⟨_, htl, k, Q, hro⟩ := hrs c d hs ht (by first | trivial | rfl)
    have p1 : w1.cell? ⟨w.heap.size, 1, none⟩ = some (.pointer (some ⟨m, 0, none⟩)) := cell_below hb1 (block_cell (j := 1) n0) (by omega)
    have p2 : w1.cell? ⟨w.heap.size + 1, 2, none⟩ = some (.string (bs [c])) := cell_below hb1 (block_cell (j := 2) n1) (by omega)
    have p3 : w1.cell? ⟨w.heap.size + 1, 3, none⟩ = some (.string (bs [d])) := cell_below hb1 (block_cell (j := 3) n1) (by omega)
    have hs1 := hb1.size
    have hB1 := hbw.trans (hb1.mono (by omega))
    have HP2 := hid (hp1.below hb1)
    have HRO := hid hro
    have HB1 := hid hB1
    have HQ := hid (And.intro p1 (And.intro p2 p3))
    clear n0 n1 hb1 hbw hp1 hB1 hrs hro
    go_wp2_with fail
    refine (HR.out _ HP2.out.r).mono ?_
    rintro e w2 ⟨rfl, hb2⟩
    have hp3 := HP2.out.below hb2
    obtain ⟨vA, hvA, hrA⟩ := hp3.r.ex
    have hmc := cell_of_one hvA
    have q1 := cell_keep hb2 HQ.out.1
    have q2 := cell_keep hb2 HQ.out.2.1
    have q3 := cell_keep hb2 HQ.out.2.2
    have HB2 := hid (HB1.out.trans (hb2.mono HB1.out.size))
    have HRA := hid hrA
    have HRQ := hid (fun wx (h : RdS wx vA (A.map Al.txt)) => HRE.out r c.toNat d.toNat k Q wx vA HRO.out h htl)
    clear hb2 hp3 hvA hrA p1 p2 p3 htl
    go_wp2_with (go_at_call 15; refine (HN.out _ _).mono ?_; rintro e w' ⟨rfl, rfl⟩)
    go_region_held3 (fun wq => wq.cell? ⟨w.heap.size, 1, none⟩ = some (.pointer (some ⟨m, 0, none⟩)) ∧ wq.cell? ⟨m, 0, none⟩ = some vA ∧ wq.cell? ⟨w.heap.size + 1, 2, none⟩ = some (.string (bs [c])) ∧ wq.cell? ⟨w.heap.size + 1, 3, none⟩ = some (.string (bs [d]))) (first | exact ⟨q1, hmc, q2, q3⟩ | (go_split_ands; exact ⟨cell_keep hbX (by assumption), cell_keep hbX (by assumption), cell_keep hbX (by assumption), cell_keep hbX (by assumption)⟩)) ((go_at_call 43; refine (HRQ.out _ (by exact HRA.out)).mono ?_; rintro e wA ⟨rfl, hbX⟩))
    all_goals
      have HB3 := hid (HB2.out.drew.trans (hbX.mono HB2.out.drew.size))
      clear hbX q1 q2 q3 hmc
      go_wp2_with fail
      go_ret
      exact ⟨rfl, HB3.out⟩
  · have hne : ((whyE A s.data.toList t.data.toList : Int) != 0) = true := by rw [bne_iff_ne]; omega
    generalize whyE A s.data.toList t.data.toList = E at *
    have hem : ({ data := #[] } : ByteArray).toList = [] := bs_toList []
    go_enter Try.func53, Try.ntmps53
    go_wp2_with fail
    obtain ⟨n0, n1, hbw, hsz⟩ := two_new w #[.pointer (some ⟨x, 0, none⟩), .pointer (some ⟨m, 0, none⟩)] #[.int .i64 9, .int .i64 W, .string s, .string t, .string u] 50 30
    generalize (w.alloc (.cells #[.pointer (some ⟨x, 0, none⟩), .pointer (some ⟨m, 0, none⟩)] 50)).alloc (.cells #[.int .i64 9, .int .i64 W, .string s, .string t, .string u] 30) = W1 at *
    have hp1 := HP.out.below hbw
    refine (HA.out _ hp1.a).mono ?_
    rintro e w1 ⟨r, rfl, hr0, _, hb1⟩
    obtain rfl := hr0 he
    have p1 : w1.cell? ⟨w.heap.size, 1, none⟩ = some (.pointer (some ⟨m, 0, none⟩)) := cell_below hb1 (block_cell (j := 1) n0) (by omega)
    have p2 : w1.cell? ⟨w.heap.size + 1, 2, none⟩ = some (.string s) := cell_below hb1 (block_cell (j := 2) n1) (by omega)
    have p3 : w1.cell? ⟨w.heap.size + 1, 3, none⟩ = some (.string t) := cell_below hb1 (block_cell (j := 3) n1) (by omega)
    have hs1 := hb1.size
    have HP2 := hid (hp1.below hb1)
    have HB1 := hid (hbw.trans (hb1.mono (by omega)))
    clear n0 n1 hb1 hbw hp1 hr0
    go_wp2_with fail
    refine (HR.out _ HP2.out.r).mono ?_
    rintro e w2 ⟨rfl, hb2⟩
    have HB2 := hid (HB1.out.trans (hb2.mono HB1.out.size))
    clear hb2
    go_wp2_with (go_at_call 15; refine (HN.out _ _).mono ?_; rintro e w' ⟨rfl, rfl⟩)
    go_ret
    exact ⟨rfl, HB2.out⟩

set_option maxRecDepth 100000 in
set_option maxHeartbeats 1000000 in
theorem step_why (hWy : WhyOk) (x m : Nat) (A : List Al.St) (W : Int) (s t u : ByteArray) (w : World) (hp : Pr w x m A) :
    Calls Try.prog 23 #[.agg #[.pointer (some ⟨x, 0, none⟩), .pointer (some ⟨m, 0, none⟩)], .agg #[.int .i64 9, .int .i64 W, .string s, .string t, .string u]] w fun e w' => e = .returned (.bool true) ∧ (∃ A', Pr w' x m A') ∧ Fr x m w w' := by
  have HP := hid hp
  have HW := hid (fun wx (h : Pr wx x m A) => why_any hWy x m A W s t u wx h)
  clear hp
  go_enter Try.func23, Try.ntmps23
  go_wp2_with fail
  obtain ⟨n0, n1, hbw, hsz⟩ := two_new w #[.pointer (some ⟨x, 0, none⟩), .pointer (some ⟨m, 0, none⟩)] #[.int .i64 9, .int .i64 W, .string s, .string t, .string u] 50 30
  generalize (w.alloc (.cells #[.pointer (some ⟨x, 0, none⟩), .pointer (some ⟨m, 0, none⟩)] 50)).alloc (.cells #[.int .i64 9, .int .i64 W, .string s, .string t, .string u] 30) = W1 at *
  have hp1 := HP.out.below hbw
  refine (HW.out _ hp1).mono ?_
  rintro e w1 ⟨rfl, hb1⟩
  have HF := hid (Fr.trans (x := x) (m := m) (Fr.of_below hbw) (Fr.of_below hb1))
  have HP2 := hid (hp1.below hb1)
  clear n0 n1 hb1 hbw hp1
  go_wp2_with fail
  go_ret
  exact ⟨rfl, ⟨A, HP2.out⟩, HF.out⟩

theorem stepOk_88 (hRf : RefineOk) : StepOk 8 8 := by
  intro kd h1 h2 x m A W s t u w hs hp
  obtain rfl : kd = 8 := by omega
  exact step_refine hRf x m A W s t u w hp
theorem stepOk_99 (hWy : WhyOk) : StepOk 9 9 := by
  intro kd h1 h2 x m A W s t u w hs hp
  obtain rfl : kd = 9 := by omega
  exact step_why hWy x m A W s t u w hp
/-- Every kind of step but New. -/
theorem stepOk_19 (hRf : RefineOk) (hWy : WhyOk) : StepOk 1 9 := by
  intro kd h1 h2 x m A W s t u w hs hp
  rcases (show (kd = 1 ∨ kd = 2 ∨ kd = 3) ∨ kd = 4 ∨ kd = 5 ∨ kd = 6 ∨ kd = 7 ∨ kd = 8 ∨ kd = 9 by omega) with hk | rfl | rfl | rfl | rfl | rfl | rfl
  · exact step_ch x m A kd W s t u w hs.1 hp hk
  · exact step_pr x m A 4 W s t u w hp rfl
  · exact step_points x m A W s t u w hs.2.1 hp
  · exact step_alias x m A W s t u w hs.2.2 hp
  · exact step_batch x m A W s t u w hp
  · exact step_refine hRf x m A W s t u w hp
  · exact step_why hWy x m A W s t u w hp

set_option maxRecDepth 100000 in
set_option maxHeartbeats 1000000 in
theorem step_else (x m : Nat) (A : List Al.St) (kd W : Int) (s t u : ByteArray) (w : World) (hp : Pr w x m A) (hk : ¬ (1 ≤ kd ∧ kd ≤ 9)) :
    Calls Try.prog 23 #[.agg #[.pointer (some ⟨x, 0, none⟩), .pointer (some ⟨m, 0, none⟩)], .agg #[.int .i64 kd, .int .i64 W, .string s, .string t, .string u]] w fun e w' => e = .returned (.bool true) ∧ (∃ A', Pr w' x m A') ∧ Fr x m w w' := by
  have HP := hid hp
  have b1 : (kd == 1) = false := beq_eq_false_iff_ne.2 (by omega)
  have b2 : (kd == 2) = false := beq_eq_false_iff_ne.2 (by omega)
  have b3 : (kd == 3) = false := beq_eq_false_iff_ne.2 (by omega)
  have b4 : (kd == 4) = false := beq_eq_false_iff_ne.2 (by omega)
  have b5 : (kd == 5) = false := beq_eq_false_iff_ne.2 (by omega)
  have b6 : (kd == 6) = false := beq_eq_false_iff_ne.2 (by omega)
  have b7 : (kd == 7) = false := beq_eq_false_iff_ne.2 (by omega)
  have b8 : (kd == 8) = false := beq_eq_false_iff_ne.2 (by omega)
  have b9 : (kd == 9) = false := beq_eq_false_iff_ne.2 (by omega)
  clear hp hk
  go_enter Try.func23, Try.ntmps23
  go_wp2_with fail
  obtain ⟨n0, n1, hbw, hsz⟩ := two_new w #[.pointer (some ⟨x, 0, none⟩), .pointer (some ⟨m, 0, none⟩)] #[.int .i64 kd, .int .i64 W, .string s, .string t, .string u] 50 30
  go_ret
  exact ⟨rfl, ⟨A, HP.out.below hbw⟩, Fr.of_below hbw⟩
theorem step_any (hRf : RefineOk) (hWy : WhyOk) (kd : Int) (x m : Nat) (A : List Al.St) (W : Int) (s t u : ByteArray) (w : World) (hs : s.size ≤ maxLen ∧ t.size ≤ maxLen ∧ u.size ≤ maxLen) (hp : Pr w x m A) :
    Calls Try.prog 23 #[.agg #[.pointer (some ⟨x, 0, none⟩), .pointer (some ⟨m, 0, none⟩)], .agg #[.int .i64 kd, .int .i64 W, .string s, .string t, .string u]] w fun e w' => e = .returned (.bool true) ∧ (∃ A', Pr w' x m A') ∧ Fr x m w w' := by
  by_cases hk : 1 ≤ kd ∧ kd ≤ 9
  · exact stepOk_19 hRf hWy kd hk.1 hk.2 x m A W s t u w hs hp
  · exact step_else x m A kd W s t u w hp hk
end Go.Proofs.Ytmjlcajcobbcgab
