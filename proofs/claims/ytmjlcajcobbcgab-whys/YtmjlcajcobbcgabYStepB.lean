import Derived.Test.YtmjlcajcobbcgabYLawF
import Derived.Test.YtmjlcajcobbcgabXm
namespace Go.Proofs.Ytmjlcajcobbcgab
open Go.RowKit

set_option maxRecDepth 100000 in
set_option maxHeartbeats 1000000 in
theorem step_points (x m : Nat) (A : List Al.St) (W : Int) (s t u : ByteArray) (w : World) (ht : t.size ≤ maxLen) (hp : Pr w x m A) :
    Calls Try.prog 23 #[.agg #[.pointer (some ⟨x, 0, none⟩), .pointer (some ⟨m, 0, none⟩)], .agg #[.int .i64 5, .int .i64 W, .string s, .string t, .string u]] w fun e w' => e = .returned (.bool true) ∧ (∃ A', Pr w' x m A') ∧ Fr x m w w' := by
  have HP := hid hp
  have htl : t.data.toList.length ≤ 9223372036854775807 := ht
  have HA := hid (fun wx (h : ASess wx x A) => aPoints_any x A s.data.toList t.data.toList wx h hp.good hp.small htl)
  have HR := hid (fun wx (h : RSess wx m A) => rPoints_any m A s.data.toList t.data.toList wx h hp.good hp.small htl)
  rw [bs_back, bs_back] at HA HR
  have hbt := bs_toList
  have HN := hid num_any
  clear hp htl ht
  generalize pointsP A s.data.toList t.data.toList = R at *
  obtain ⟨R1, R2, R3⟩ := R
  simp only at HA HR
  go_enter Try.func23, Try.ntmps23
  go_wp2_with fail
  obtain ⟨n0, n1, hbw, hsz⟩ := two_new w #[.pointer (some ⟨x, 0, none⟩), .pointer (some ⟨m, 0, none⟩)] #[.int .i64 5, .int .i64 W, .string s, .string t, .string u] 50 30
  generalize (w.alloc (.cells #[.pointer (some ⟨x, 0, none⟩), .pointer (some ⟨m, 0, none⟩)] 50)).alloc (.cells #[.int .i64 5, .int .i64 W, .string s, .string t, .string u] 30) = W1 at *
  have hp1 := HP.out.below hbw
  refine (HA.out _ hp1.a).mono ?_
  rintro e w1 ⟨rfl, hb1⟩
  have p1 : w1.cell? ⟨w.heap.size, 1, none⟩ = some (.pointer (some ⟨m, 0, none⟩)) := cell_below hb1 (block_cell (j := 1) n0) (by omega)
  have p2 : w1.cell? ⟨w.heap.size + 1, 2, none⟩ = some (.string s) := cell_below hb1 (block_cell (j := 2) n1) (by omega)
  have p3 : w1.cell? ⟨w.heap.size + 1, 3, none⟩ = some (.string t) := cell_below hb1 (block_cell (j := 3) n1) (by omega)
  have hs1 := hb1.size
  have hp2 := hp1.below hb1
  have HF := hid (Fr.trans (x := x) (m := m) (Fr.of_below hbw) (Fr.of_below hb1))
  have HP2 := hid hp2
  clear n0 n1 hb1 hbw hp1 hp2
  go_wp2_with fail
  refine (HR.out _ HP2.out.r).mono ?_
  rintro e w2 ⟨rfl, hb2⟩
  have HF2 := hid (HF.out.trans (Fr.of_below hb2))
  have HP3 := hid (HP2.out.below hb2)
  clear hb2
  go_wp2_with (go_at_call 15; refine (HN.out _ _).mono ?_; rintro e w' ⟨rfl, rfl⟩)
  go_ret
  exact ⟨rfl, ⟨A, HP3.out⟩, HF2.out⟩

set_option maxRecDepth 100000 in
set_option maxHeartbeats 1000000 in
theorem step_alias (x m : Nat) (A : List Al.St) (W : Int) (s t u : ByteArray) (w : World) (hu : u.size ≤ maxLen) (hp : Pr w x m A) :
    Calls Try.prog 23 #[.agg #[.pointer (some ⟨x, 0, none⟩), .pointer (some ⟨m, 0, none⟩)], .agg #[.int .i64 6, .int .i64 W, .string s, .string t, .string u]] w fun e w' => e = .returned (.bool true) ∧ (∃ A', Pr w' x m A') ∧ Fr x m w w' := by
  have HP := hid hp
  have hul : u.data.toList.length ≤ 9223372036854775807 := hu
  have HA := hid (fun wx (h : ASess wx x A) => aAlias_any x A s.data.toList t.data.toList u.data.toList wx h hp.good hp.small hul)
  have HR := hid (fun wx (h : RSess wx m A) => rAlias_any m A s.data.toList t.data.toList u.data.toList wx h hp.good hp.small hul)
  rw [bs_back, bs_back, bs_back] at HA HR
  have HN := hid num_any
  clear hp hul hu
  generalize aliasP A s.data.toList t.data.toList u.data.toList = R at *
  obtain ⟨R1, R2, R3⟩ := R
  simp only at HA HR
  go_enter Try.func23, Try.ntmps23
  go_wp2_with fail
  obtain ⟨n0, n1, hbw, hsz⟩ := two_new w #[.pointer (some ⟨x, 0, none⟩), .pointer (some ⟨m, 0, none⟩)] #[.int .i64 6, .int .i64 W, .string s, .string t, .string u] 50 30
  generalize (w.alloc (.cells #[.pointer (some ⟨x, 0, none⟩), .pointer (some ⟨m, 0, none⟩)] 50)).alloc (.cells #[.int .i64 6, .int .i64 W, .string s, .string t, .string u] 30) = W1 at *
  have hp1 := HP.out.below hbw
  refine (HA.out _ hp1.a).mono ?_
  rintro e w1 ⟨rfl, hb1⟩
  have p1 : w1.cell? ⟨w.heap.size, 1, none⟩ = some (.pointer (some ⟨m, 0, none⟩)) := cell_below hb1 (block_cell (j := 1) n0) (by omega)
  have p2 : w1.cell? ⟨w.heap.size + 1, 2, none⟩ = some (.string s) := cell_below hb1 (block_cell (j := 2) n1) (by omega)
  have p3 : w1.cell? ⟨w.heap.size + 1, 3, none⟩ = some (.string t) := cell_below hb1 (block_cell (j := 3) n1) (by omega)
  have p4 : w1.cell? ⟨w.heap.size + 1, 4, none⟩ = some (.string u) := cell_below hb1 (block_cell (j := 4) n1) (by omega)
  have hs1 := hb1.size
  have hp2 := hp1.below hb1
  have HF := hid (Fr.trans (x := x) (m := m) (Fr.of_below hbw) (Fr.of_below hb1))
  have HP2 := hid hp2
  clear n0 n1 hb1 hbw hp1 hp2
  go_wp2_with fail
  refine (HR.out _ HP2.out.r).mono ?_
  rintro e w2 ⟨rfl, hb2⟩
  have HF2 := hid (HF.out.trans (Fr.of_below hb2))
  have HP3 := hid (HP2.out.below hb2)
  clear hb2
  go_wp2_with (go_at_call 15; refine (HN.out _ _).mono ?_; rintro e w' ⟨rfl, rfl⟩)
  go_ret
  exact ⟨rfl, ⟨A, HP3.out⟩, HF2.out⟩

set_option maxRecDepth 100000 in
set_option maxHeartbeats 1000000 in
theorem step_batch (x m : Nat) (A : List Al.St) (W : Int) (s t u : ByteArray) (w : World) (hp : Pr w x m A) :
    Calls Try.prog 23 #[.agg #[.pointer (some ⟨x, 0, none⟩), .pointer (some ⟨m, 0, none⟩)], .agg #[.int .i64 7, .int .i64 W, .string s, .string t, .string u]] w fun e w' => e = .returned (.bool true) ∧ (∃ A', Pr w' x m A') ∧ Fr x m w w' := by
  have HP := hid hp
  have HA := hid (fun wx (h : ASess wx x A) => aBatch_any x A wx h hp.good hp.small)
  have HR := hid (fun wx (h : RSess wx m A) => rBatch_any m A wx h hp.good hp.small)
  have hbt := bs_toList
  clear hp
  generalize batchP A = L at *
  go_enter Try.func23, Try.ntmps23
  go_wp2_with fail
  obtain ⟨n0, n1, hbw, hsz⟩ := two_new w #[.pointer (some ⟨x, 0, none⟩), .pointer (some ⟨m, 0, none⟩)] #[.int .i64 7, .int .i64 W, .string s, .string t, .string u] 50 30
  generalize (w.alloc (.cells #[.pointer (some ⟨x, 0, none⟩), .pointer (some ⟨m, 0, none⟩)] 50)).alloc (.cells #[.int .i64 7, .int .i64 W, .string s, .string t, .string u] 30) = W1 at *
  have hp1 := HP.out.below hbw
  refine (HA.out _ hp1.a).mono ?_
  rintro e w1 ⟨rfl, hb1⟩
  have p1 : w1.cell? ⟨w.heap.size, 1, none⟩ = some (.pointer (some ⟨m, 0, none⟩)) := cell_below hb1 (block_cell (j := 1) n0) (by omega)
  have hs1 := hb1.size
  have hp2 := hp1.below hb1
  have HF := hid (Fr.trans (x := x) (m := m) (Fr.of_below hbw) (Fr.of_below hb1))
  have HP2 := hid hp2
  clear n0 n1 hb1 hbw hp1 hp2
  go_wp2_with fail
  refine (HR.out _ HP2.out.r).mono ?_
  rintro e w2 ⟨rfl, hb2⟩
  have HF2 := hid (HF.out.trans (Fr.of_below hb2))
  have HP3 := hid (HP2.out.below hb2)
  clear hb2
  go_wp2_with fail
  go_ret
  exact ⟨rfl, ⟨A, HP3.out⟩, HF2.out⟩

theorem stepOk_55 : StepOk 5 5 := by
  intro kd h1 h2 x m A W s t u w hs hp
  obtain rfl : kd = 5 := by omega
  exact step_points x m A W s t u w hs.2.1 hp
theorem stepOk_66 : StepOk 6 6 := by
  intro kd h1 h2 x m A W s t u w hs hp
  obtain rfl : kd = 6 := by omega
  exact step_alias x m A W s t u w hs.2.2 hp
theorem stepOk_77 : StepOk 7 7 := by
  intro kd h1 h2 x m A W s t u w hs hp
  obtain rfl : kd = 7 := by omega
  exact step_batch x m A W s t u w hp
end Go.Proofs.Ytmjlcajcobbcgab
