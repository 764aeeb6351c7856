import Derived.Test.YtljafkdaljkanaaLawA
namespace Go.Proofs.Ytljafkdaljkanaa
open Go.RowKit

theorem parse_keeps (l : List UInt8) : ∀ (n i : Nat) (A : List Al.St), Al.Good A → Al.Good (Al.parse l n i A).1
  | 0, _, A, h => h
  | n + 1, i, A, h => by
    unfold Al.parse
    by_cases c1 : i < l.length
    · rw [if_pos c1]
      by_cases c2 : Al.kindOf (l.drop i) < 4
      · rw [if_pos c2]
        exact parse_keeps l n _ _ (Al.withP_good h (Al.stmt_yes c2).2.2.1)
      · rw [if_neg c2]; exact Al.good_nil
    · rw [if_neg c1]; exact h
theorem chLoad_ok (l : List UInt8) {A : List Al.St} (h : Al.Good A) (hl : A.length ≤ 24) : Al.Good (chLoad l A) ∧ (chLoad l A).length ≤ 24 := by
  unfold chLoad
  by_cases c : (Al.loadP l).1 = 0
  · rw [if_pos c]
    unfold Al.loadP at c ⊢
    by_cases c1 : 200 < l.length
    · rw [if_pos c1] at c; simp at c
    · rw [if_neg c1] at c ⊢
      by_cases c2 : (Al.parse l l.length 0 []).2.2 = false
      · rw [if_pos c2] at c; simp at c
      · rw [if_neg c2] at c ⊢
        by_cases c3 : 24 < (Al.parse l l.length 0 []).1.length
        · rw [if_pos c3] at c; simp at c
        · rw [if_neg c3]
          exact ⟨parse_keeps l _ _ _ Al.good_nil, by simpa using c3⟩
  · rw [if_neg c]; exact ⟨h, hl⟩
theorem chAdd_ok (l : List UInt8) {A : List Al.St} (h : Al.Good A) (hl : A.length ≤ 24) : Al.Good (chAdd l A) ∧ (chAdd l A).length ≤ 24 := by
  unfold chAdd
  by_cases c : (addE l A).1 = 0
  · rw [if_pos c]
    unfold addE at c
    by_cases c1 : (Al.oneP l).1 = 0
    · rw [if_pos c1] at c
      by_cases c2 : 24 < (Al.withP A (theSt l)).length
      · rw [if_pos c2] at c; simp at c
      · exact ⟨Al.withP_good h (Al.one_yes c1).2.1, by omega⟩
    · rw [if_neg c1] at c; exact absurd c c1
  · rw [if_neg c]; exact ⟨h, hl⟩
theorem chDrop_ok (l : List UInt8) {A : List Al.St} (h : Al.Good A) (hl : A.length ≤ 24) : Al.Good (chDrop l A) ∧ (chDrop l A).length ≤ 24 := by
  unfold chDrop
  by_cases c : (dropE l A).1 = 0
  · rw [if_pos c]; exact ⟨Al.dropP_good h, Nat.le_trans (Al.dropP_le _ _) hl⟩
  · rw [if_neg c]; exact ⟨h, hl⟩

/-- The two boxed parameters of 'changes' and 'step'. -/
theorem two_new (w : World) (C D : Array Value) (t u : TypeId) : ((w.alloc (.cells C t)).alloc (.cells D u)).heap[w.heap.size]? = some (.cells C t (0, 0)) ∧ ((w.alloc (.cells C t)).alloc (.cells D u)).heap[w.heap.size + 1]? = some (.cells D u (0, 0)) ∧
    Below w.heap.size w ((w.alloc (.cells C t)).alloc (.cells D u)) ∧ ((w.alloc (.cells C t)).alloc (.cells D u)).heap.size = w.heap.size + 2 := by
  refine ⟨?_, heap2 w _ _, ((Below.refl _ _).alloc (Nat.le_refl _) _).alloc (by simp) _, by simp⟩
  rw [Below.heap_alloc _ _ _ (by simp)]; exact heap_alloc_new w _

set_option maxRecDepth 100000 in
set_option maxHeartbeats 400000 in
theorem changes_load (x m : Nat) (A : List Al.St) (kd W : Int) (s t u : ByteArray) (w : World) (hs : s.size ≤ maxLen) (hp : Pr w x m A) (hk : kd = 1) :
    Calls Try.prog 64 #[.agg #[.pointer (some ⟨x, 0, none⟩), .pointer (some ⟨m, 0, none⟩)], .agg #[.int .i64 kd, .int .i64 W, .string s, .string t, .string u]] w fun e w' => e = .returned (.bool true) ∧ Pr w' x m (chLoad s.data.toList A) ∧ Fr x m w w' := by
  subst hk
  obtain ⟨ha, hr, hgood, hsmall⟩ := hp
  have HOK := hid (chLoad_ok s.data.toList hgood hsmall)
  obtain ⟨vx, hx⟩ := ha.hd
  have hxl := lt_of_block hx
  have HA := hid (fun wx (h : ASess wx x A) => aLoad_any x A s wx hs h)
  have HRr := hid (fun wx (h : RSess wx m A) => rLoad_any m A s wx hs h)
  go_enter Try.func64, Try.ntmps64
  go_wp2_with fail
  obtain ⟨n0, n1, hbw, hsz⟩ := two_new w #[.pointer (some ⟨x, 0, none⟩), .pointer (some ⟨m, 0, none⟩)] #[.int .i64 1, .int .i64 W, .string s, .string t, .string u] 36 33
  generalize (w.alloc (.cells #[.pointer (some ⟨x, 0, none⟩), .pointer (some ⟨m, 0, none⟩)] 36)).alloc (.cells #[.int .i64 1, .int .i64 W, .string s, .string t, .string u] 33) = W1 at *
  have hxW : W1.heap[x]? = some (.cells #[vx] 70 (0, 0)) := by rw [hbw.block x hxl]; exact hx
  refine (HA.out _ (ha.below hbw)).mono ?_
  rintro e w1 ⟨rfl, ha1, hg1⟩
  have p1 : w1.cell? ⟨w.heap.size, 1, none⟩ = some (.pointer (some ⟨m, 0, none⟩)) := hg1.cell (block_cell (j := 1) n0) (by simp; omega)
  have p2 : w1.cell? ⟨w.heap.size + 1, 2, none⟩ = some (.string s) := hg1.cell (block_cell (j := 2) n1) (by simp; omega)
  have hr1 := (hr.below hbw).grown hg1 hxW
  obtain ⟨vm, hm1⟩ := hr1.hd
  have HG1 := hid hg1
  have HA1 := hid ha1
  have HBW := hid hbw
  clear n0 n1 hg1 ha1 hbw hxW
  go_wp2_with fail
  refine (HRr.out _ hr1).mono ?_
  rintro e w2 ⟨rfl, hr2, hg2⟩
  have R := hid (And.intro (Pr.mk (HA1.out.grown hg2 hm1) hr2 HOK.out.1 HOK.out.2) ((Fr.of_below HBW.out).trans ((Fr.of_left (m := m) HG1.out).trans (Fr.of_right (x := x) hg2))))
  clear hr2 hg2 hm1 hr1 p1 p2
  generalize Al.loadP s.data.toList = E at *
  go_wp2_with (go_at_call 33; refine (num_any _ _).mono ?_; rintro e w' ⟨rfl, rfl⟩)
  go_ret
  exact ⟨rfl, R.out.1, R.out.2⟩
set_option maxRecDepth 100000 in
set_option maxHeartbeats 400000 in
theorem changes_add (x m : Nat) (A : List Al.St) (kd W : Int) (s t u : ByteArray) (w : World) (hs : s.size ≤ maxLen) (hp : Pr w x m A) (hk : kd = 2) :
    Calls Try.prog 64 #[.agg #[.pointer (some ⟨x, 0, none⟩), .pointer (some ⟨m, 0, none⟩)], .agg #[.int .i64 kd, .int .i64 W, .string s, .string t, .string u]] w fun e w' => e = .returned (.bool true) ∧ Pr w' x m (chAdd s.data.toList A) ∧ Fr x m w w' := by
  subst hk
  obtain ⟨ha, hr, hgood, hsmall⟩ := hp
  have HOK := hid (chAdd_ok s.data.toList hgood hsmall)
  obtain ⟨vx, hx⟩ := ha.hd
  have hxl := lt_of_block hx
  have HA := hid (fun wx (h : ASess wx x A) => aAdd_any x A s wx hs h hsmall)
  have HRr := hid (fun wx (h : RSess wx m A) => rAdd_any m A s wx hs h hgood hsmall)
  go_enter Try.func64, Try.ntmps64
  go_wp2_with fail
  obtain ⟨n0, n1, hbw, hsz⟩ := two_new w #[.pointer (some ⟨x, 0, none⟩), .pointer (some ⟨m, 0, none⟩)] #[.int .i64 2, .int .i64 W, .string s, .string t, .string u] 36 33
  generalize (w.alloc (.cells #[.pointer (some ⟨x, 0, none⟩), .pointer (some ⟨m, 0, none⟩)] 36)).alloc (.cells #[.int .i64 2, .int .i64 W, .string s, .string t, .string u] 33) = W1 at *
  have hxW : W1.heap[x]? = some (.cells #[vx] 70 (0, 0)) := by rw [hbw.block x hxl]; exact hx
  refine (HA.out _ (ha.below hbw)).mono ?_
  rintro e w1 ⟨rfl, ha1, hg1⟩
  have p1 : w1.cell? ⟨w.heap.size, 1, none⟩ = some (.pointer (some ⟨m, 0, none⟩)) := hg1.cell (block_cell (j := 1) n0) (by simp; omega)
  have p2 : w1.cell? ⟨w.heap.size + 1, 2, none⟩ = some (.string s) := hg1.cell (block_cell (j := 2) n1) (by simp; omega)
  have hr1 := (hr.below hbw).grown hg1 hxW
  obtain ⟨vm, hm1⟩ := hr1.hd
  have HG1 := hid hg1
  have HA1 := hid ha1
  have HBW := hid hbw
  clear n0 n1 hg1 ha1 hbw hxW
  go_wp2_with fail
  refine (HRr.out _ hr1).mono ?_
  rintro e w2 ⟨rfl, hr2, hg2⟩
  have R := hid (And.intro (Pr.mk (HA1.out.grown hg2 hm1) hr2 HOK.out.1 HOK.out.2) ((Fr.of_below HBW.out).trans ((Fr.of_left (m := m) HG1.out).trans (Fr.of_right (x := x) hg2))))
  clear hr2 hg2 hm1 hr1 p1 p2
  generalize addE s.data.toList A = E at *
  go_wp2_with (go_at_call 33; refine (num_any _ _).mono ?_; rintro e w' ⟨rfl, rfl⟩)
  go_ret
  exact ⟨rfl, R.out.1, R.out.2⟩
set_option maxRecDepth 100000 in
set_option maxHeartbeats 400000 in
theorem changes_drop (x m : Nat) (A : List Al.St) (kd W : Int) (s t u : ByteArray) (w : World) (hs : s.size ≤ maxLen) (hp : Pr w x m A) (h1 : kd ≠ 1) (h2 : kd ≠ 2) :
    Calls Try.prog 64 #[.agg #[.pointer (some ⟨x, 0, none⟩), .pointer (some ⟨m, 0, none⟩)], .agg #[.int .i64 kd, .int .i64 W, .string s, .string t, .string u]] w fun e w' => e = .returned (.bool true) ∧ Pr w' x m (chDrop s.data.toList A) ∧ Fr x m w w' := by
  obtain ⟨ha, hr, hgood, hsmall⟩ := hp
  have HOK := hid (chDrop_ok s.data.toList hgood hsmall)
  obtain ⟨vx, hx⟩ := ha.hd
  have hxl := lt_of_block hx
  have HA := hid (fun wx (h : ASess wx x A) => aDrop_any x A s wx hs h hgood hsmall)
  have HRr := hid (fun wx (h : RSess wx m A) => rDrop_any m A s wx hs h hgood hsmall)
  go_enter Try.func64, Try.ntmps64
  go_wp2_with fail
  obtain ⟨n0, n1, hbw, hsz⟩ := two_new w #[.pointer (some ⟨x, 0, none⟩), .pointer (some ⟨m, 0, none⟩)] #[.int .i64 kd, .int .i64 W, .string s, .string t, .string u] 36 33
  generalize (w.alloc (.cells #[.pointer (some ⟨x, 0, none⟩), .pointer (some ⟨m, 0, none⟩)] 36)).alloc (.cells #[.int .i64 kd, .int .i64 W, .string s, .string t, .string u] 33) = W1 at *
  have hxW : W1.heap[x]? = some (.cells #[vx] 70 (0, 0)) := by rw [hbw.block x hxl]; exact hx
  refine (HA.out _ (ha.below hbw)).mono ?_
  rintro e w1 ⟨rfl, ha1, hg1⟩
  have p1 : w1.cell? ⟨w.heap.size, 1, none⟩ = some (.pointer (some ⟨m, 0, none⟩)) := hg1.cell (block_cell (j := 1) n0) (by simp; omega)
  have p2 : w1.cell? ⟨w.heap.size + 1, 2, none⟩ = some (.string s) := hg1.cell (block_cell (j := 2) n1) (by simp; omega)
  have hr1 := (hr.below hbw).grown hg1 hxW
  obtain ⟨vm, hm1⟩ := hr1.hd
  have HG1 := hid hg1
  have HA1 := hid ha1
  have HBW := hid hbw
  clear n0 n1 hg1 ha1 hbw hxW
  go_wp2_with fail
  refine (HRr.out _ hr1).mono ?_
  rintro e w2 ⟨rfl, hr2, hg2⟩
  have R := hid (And.intro (Pr.mk (HA1.out.grown hg2 hm1) hr2 HOK.out.1 HOK.out.2) ((Fr.of_below HBW.out).trans ((Fr.of_left (m := m) HG1.out).trans (Fr.of_right (x := x) hg2))))
  clear hr2 hg2 hm1 hr1 p1 p2
  generalize dropE s.data.toList A = E at *
  go_wp2_with (go_at_call 33; refine (num_any _ _).mono ?_; rintro e w' ⟨rfl, rfl⟩)
  go_ret
  exact ⟨rfl, R.out.1, R.out.2⟩

end Go.Proofs.Ytljafkdaljkanaa
