import Derived.Test.YtmjlcajcobbcgabXg
namespace Go.Proofs.Ytmjlcajcobbcgab
open Go.RowKit

/-- Only two blocks of what was there may have turned. -/
structure Fr (x m : Nat) (w w' : World) : Prop where
  os : w'.os = w.os
  tape : w'.tape = w.tape
  output : w'.output = w.output
  size : w.heap.size ≤ w'.heap.size
  block : ∀ k, k < w.heap.size → k ≠ x → k ≠ m → w'.heap[k]? = w.heap[k]?

theorem Fr.of_below {x m : Nat} {w w' : World} (h : Below w.heap.size w w') : Fr x m w w' := ⟨h.os, h.tape, h.output, h.size, fun k hk _ _ => h.block k hk⟩
theorem Fr.of_left {x m : Nat} {w w' : World} (h : w.grownBy w' (some x)) : Fr x m w w' := ⟨h.os, h.tape, h.output, h.size, fun k hk h1 _ => h.block k hk (by simpa using h1)⟩
theorem Fr.of_right {x m : Nat} {w w' : World} (h : w.grownBy w' (some m)) : Fr x m w w' := ⟨h.os, h.tape, h.output, h.size, fun k hk _ h1 => h.block k hk (by simpa using h1)⟩
theorem Fr.trans {x m : Nat} {a b c : World} (h : Fr x m a b) (k : Fr x m b c) : Fr x m a c :=
  ⟨k.os.trans h.os, k.tape.trans h.tape, k.output.trans h.output, Nat.le_trans h.size k.size, fun i hi h1 h2 => (k.block i (Nat.lt_of_lt_of_le hi h.size) h1 h2).trans (h.block i hi h1 h2)⟩
theorem Fr.below {x m B : Nat} {w w' : World} (h : Fr x m w w') (hB : B ≤ w.heap.size) (hx : B ≤ x) (hm : B ≤ m) : Below B w w' :=
  ⟨h.os, h.tape, h.output, h.size, fun k hk => h.block k (by omega) (by omega) (by omega)⟩

/-- What a session reads stays, while blocks of other kinds are written. -/
theorem ownsRow_stays {w w' : World} {base : Nat} {e : TypeId} {size : Nat} {v : Value} {n : Nat} {xs : List Value} (h : w.ownsRow base e size v n xs)
    (hk : ∀ (g : Nat) (cur : Array Value), w.heap[g]? = some (Obj.cells cur e (0, 0)) → w'.heap[g]? = w.heap[g]?) : w'.ownsRow base e size v n xs := by
  refine ⟨h.1, ?_⟩
  rcases h.2 with hn | ⟨g, cap, cur, rfl, hg0, hg, rest⟩
  · exact .inl hn
  · exact .inr ⟨g, cap, cur, rfl, hg0, by rw [hk g cur hg]; exact hg, rest⟩

/-- A session of the program and one of the document side by side, both with the statements A. -/
structure Pr (w : World) (x m : Nat) (A : List Al.St) : Prop where
  a : ASess w x A
  r : RSess w m A
  good : Al.Good A
  small : A.length ≤ 24

theorem ASess.hd {w : World} {b : Nat} {A : List Al.St} (h : ASess w b A) : ∃ v, w.heap[b]? = some (.cells #[v] 69 (0, 0)) := let ⟨v, h1, _⟩ := h.ex; ⟨v, h1⟩
theorem RSess.hd {w : World} {b : Nat} {A : List Al.St} (h : RSess w b A) : ∃ v, w.heap[b]? = some (.cells #[v] 61 (0, 0)) := let ⟨v, h1, _⟩ := h.ex; ⟨v, h1⟩

theorem ASess.fr {w w' : World} {b x m : Nat} {A : List Al.St} {vx vm : Value} (h : ASess w b A) (hf : Fr x m w w') (hne : b ≠ x) (hx : w.heap[x]? = some (.cells #[vx] 69 (0, 0))) (hm : w.heap[m]? = some (.cells #[vm] 61 (0, 0))) : ASess w' b A := by
  obtain ⟨v, h1, h2⟩ := h.ex
  have hbm : b ≠ m := fun e => by rw [e, hm] at h1; simp at h1
  refine ⟨v, by rw [hf.block b (lt_of_block h1) hne hbm]; exact h1, ownsRow_stays h2 fun g cur hg => hf.block g (lt_of_block hg) (fun e => ?_) (fun e => ?_)⟩
  · rw [e, hx] at hg; simp at hg
  · rw [e, hm] at hg; simp at hg
theorem RSess.fr {w w' : World} {b x m : Nat} {A : List Al.St} {vx vm : Value} (h : RSess w b A) (hf : Fr x m w w') (hne : b ≠ m) (hx : w.heap[x]? = some (.cells #[vx] 69 (0, 0))) (hm : w.heap[m]? = some (.cells #[vm] 61 (0, 0))) : RSess w' b A := by
  obtain ⟨v, h1, h2⟩ := h.ex
  have hbx : b ≠ x := fun e => by rw [e, hx] at h1; simp at h1
  refine ⟨v, by rw [hf.block b (lt_of_block h1) hbx hne]; exact h1, ownsRow_stays h2 fun g cur hg => hf.block g (lt_of_block hg) (fun e => ?_) (fun e => ?_)⟩
  · rw [e, hx] at hg; simp at hg
  · rw [e, hm] at hg; simp at hg

/-- One of the two is written: the other one stays. -/
theorem RSess.grown {w w' : World} {b x : Nat} {A : List Al.St} {vx : Value} (h : RSess w b A) (hf : w.grownBy w' (some x)) (hx : w.heap[x]? = some (.cells #[vx] 69 (0, 0))) : RSess w' b A := by
  obtain ⟨v, h1, h2⟩ := h.ex
  have hbx : b ≠ x := fun e => by rw [e, hx] at h1; simp at h1
  refine ⟨v, by rw [hf.block b (lt_of_block h1) (by simpa using hbx)]; exact h1, ownsRow_stays h2 fun g cur hg => hf.block g (lt_of_block hg) (fun e => ?_)⟩
  simp at e; rw [e, hx] at hg; simp at hg
theorem ASess.grown {w w' : World} {b x : Nat} {A : List Al.St} {vx : Value} (h : ASess w b A) (hf : w.grownBy w' (some x)) (hx : w.heap[x]? = some (.cells #[vx] 61 (0, 0))) : ASess w' b A := by
  obtain ⟨v, h1, h2⟩ := h.ex
  have hbx : b ≠ x := fun e => by rw [e, hx] at h1; simp at h1
  refine ⟨v, by rw [hf.block b (lt_of_block h1) (by simpa using hbx)]; exact h1, ownsRow_stays h2 fun g cur hg => hf.block g (lt_of_block hg) (fun e => ?_)⟩
  simp at e; rw [e, hx] at hg; simp at hg

theorem num_any (n : Int) (w : World) : Calls Try.prog 15 #[.int .i64 n] w fun e w' => e = .returned (.int .i64 n) ∧ w' = w := by
  go_enter Try.func15, Try.ntmps15
  go_wp2
  go_ret
  exact ⟨rfl, rfl⟩
theorem New_any (w : World) : Calls Try.prog 24 #[] w fun e w' => e = .returned (.pointer (some ⟨w.heap.size, 0, none⟩)) ∧ w' = w.alloc (.cells #[.slice none 0 0] 69) := by
  go_enter Try.func24, Try.ntmps24
  go_wp2
  go_ret
  exact ⟨rfl, rfl⟩

theorem nil_A (w : World) : RdA w (.slice none 0 0) [] := World.ownsRow_nil _ _ _ _
theorem nil_R (w : World) : RdS w (.slice none 0 0) [] := World.ownsRow_nil _ _ _ _

end Go.Proofs.Ytmjlcajcobbcgab

namespace Go.Proofs.Ytmjlcajcobbcgab
open Go.RowKit

theorem parse_keeps (l : List UInt8) : ∀ (n i : Nat) (A : List Al.St), Al.Good A → Al.Good (Al.parse l n i A).1
  | 0, _, A, h => h
  | n + 1, i, A, h => by
    unfold Al.parse
    by_cases c1 : i < l.length
    · rw [if_pos c1]
      by_cases c2 : Al.kindOf (l.drop i) < 4
      · rw [if_pos c2]
        exact parse_keeps l n _ _ (Al.withP_good h (Al.stmt_yes c2).2.2.1)
      · rw [if_neg c2]; exact Al.good_nil
    · rw [if_neg c1]; exact h
theorem chLoad_ok (l : List UInt8) {A : List Al.St} (h : Al.Good A) (hl : A.length ≤ 24) : Al.Good (chLoad l A) ∧ (chLoad l A).length ≤ 24 := by
  unfold chLoad
  by_cases c : (Al.loadP l).1 = 0
  · rw [if_pos c]
    unfold Al.loadP at c ⊢
    by_cases c1 : 200 < l.length
    · rw [if_pos c1] at c; simp at c
    · rw [if_neg c1] at c ⊢
      by_cases c2 : (Al.parse l l.length 0 []).2.2 = false
      · rw [if_pos c2] at c; simp at c
      · rw [if_neg c2] at c ⊢
        by_cases c3 : 24 < (Al.parse l l.length 0 []).1.length
        · rw [if_pos c3] at c; simp at c
        · rw [if_neg c3]
          exact ⟨parse_keeps l _ _ _ Al.good_nil, by simpa using c3⟩
  · rw [if_neg c]; exact ⟨h, hl⟩
theorem chAdd_ok (l : List UInt8) {A : List Al.St} (h : Al.Good A) (hl : A.length ≤ 24) : Al.Good (chAdd l A) ∧ (chAdd l A).length ≤ 24 := by
  unfold chAdd
  by_cases c : (addE l A).1 = 0
  · rw [if_pos c]
    unfold addE at c
    by_cases c1 : (Al.oneP l).1 = 0
    · rw [if_pos c1] at c
      by_cases c2 : 24 < (Al.withP A (theSt l)).length
      · rw [if_pos c2] at c; simp at c
      · exact ⟨Al.withP_good h (Al.one_yes c1).2.1, by omega⟩
    · rw [if_neg c1] at c; exact absurd c c1
  · rw [if_neg c]; exact ⟨h, hl⟩
theorem chDrop_ok (l : List UInt8) {A : List Al.St} (h : Al.Good A) (hl : A.length ≤ 24) : Al.Good (chDrop l A) ∧ (chDrop l A).length ≤ 24 := by
  unfold chDrop
  by_cases c : (dropE l A).1 = 0
  · rw [if_pos c]; exact ⟨Al.dropP_good h, Nat.le_trans (Al.dropP_le _ _) hl⟩
  · rw [if_neg c]; exact ⟨h, hl⟩

/-- The two boxed parameters of 'changes' and 'step'. -/
theorem two_new (w : World) (C D : Array Value) (t u : TypeId) : ((w.alloc (.cells C t)).alloc (.cells D u)).heap[w.heap.size]? = some (.cells C t (0, 0)) ∧ ((w.alloc (.cells C t)).alloc (.cells D u)).heap[w.heap.size + 1]? = some (.cells D u (0, 0)) ∧
    Below w.heap.size w ((w.alloc (.cells C t)).alloc (.cells D u)) ∧ ((w.alloc (.cells C t)).alloc (.cells D u)).heap.size = w.heap.size + 2 := by
  refine ⟨?_, heap2 w _ _, ((Below.refl _ _).alloc (Nat.le_refl _) _).alloc (by simp) _, by simp⟩
  rw [Below.heap_alloc _ _ _ (by simp)]; exact heap_alloc_new w _

end Go.Proofs.Ytmjlcajcobbcgab

namespace Go.Proofs.Ytmjlcajcobbcgab
open Go.RowKit

set_option maxRecDepth 100000 in
set_option maxHeartbeats 400000 in
theorem fresh_any (w : World) : Calls Try.prog 21 #[] w fun e w' => ∃ x m, e = .returned (.tuple #[.agg #[.pointer (some ⟨x, 0, none⟩), .pointer (some ⟨m, 0, none⟩)], .bool true]) ∧ w.heap.size ≤ x ∧ w.heap.size ≤ m ∧ Pr w' x m [] ∧ Below w.heap.size w w' := by
  go_enter Try.func21, Try.ntmps21
  go_wp2_with fail
  refine (New_any _).mono ?_
  rintro e w1 ⟨rfl, rfl⟩
  go_wp2_with fail
  refine bodyPost_ret (v := .tuple #[.agg #[.pointer (some ⟨w.heap.size + 1, 0, none⟩), .pointer (some ⟨w.heap.size + 2, 0, none⟩)], .bool true]) (by simp [results, Try.results21, go_sem]) rfl ⟨w.heap.size + 1, w.heap.size + 2, rfl, by omega, by omega, ?_, ?_⟩
  · refine ⟨⟨.slice none 0 0, ?_, nil_A _⟩, ⟨.slice none 0 0, ?_, nil_R _⟩, Al.good_nil, by simp⟩
    · rw [Below.heap_alloc _ _ _ (by simp)]; exact heap2 w _ _
    · have := heap_alloc_new ((w.alloc (.cells #[.pointer (some ⟨w.heap.size + 1, 0, none⟩), .pointer (some ⟨w.heap.size + 1 + 1, 0, none⟩)] 50)).alloc (.cells #[.slice none 0 0] 69)) (.cells #[.slice none 0 0] 61)
      rw [World.size_alloc, World.size_alloc] at this
      exact this
  · exact (((Below.refl _ _).alloc (Nat.le_refl _) _).alloc (by simp) _).alloc (by simp; omega) _
end Go.Proofs.Ytmjlcajcobbcgab

namespace Go.Proofs.Ytmjlcajcobbcgab
open Go.RowKit

set_option maxRecDepth 100000 in
set_option maxHeartbeats 400000 in
theorem changes_load (x m : Nat) (A : List Al.St) (kd W : Int) (s t u : ByteArray) (w : World) (hs : s.size ≤ maxLen) (hp : Pr w x m A) (hk : kd = 1) :
    Calls Try.prog 47 #[.agg #[.pointer (some ⟨x, 0, none⟩), .pointer (some ⟨m, 0, none⟩)], .agg #[.int .i64 kd, .int .i64 W, .string s, .string t, .string u]] w fun e w' => e = .returned (.bool true) ∧ Pr w' x m (chLoad s.data.toList A) ∧ Fr x m w w' := by
  subst hk
  obtain ⟨ha, hr, hgood, hsmall⟩ := hp
  have HOK := hid (chLoad_ok s.data.toList hgood hsmall)
  obtain ⟨vx, hx⟩ := ha.hd
  have hxl := lt_of_block hx
  have HA := hid (fun wx (h : ASess wx x A) => aLoad_any x A s wx hs h)
  have HRr := hid (fun wx (h : RSess wx m A) => rLoad_any m A s wx hs h)
  go_enter Try.func47, Try.ntmps47
  go_wp2_with fail
  obtain ⟨n0, n1, hbw, hsz⟩ := two_new w #[.pointer (some ⟨x, 0, none⟩), .pointer (some ⟨m, 0, none⟩)] #[.int .i64 1, .int .i64 W, .string s, .string t, .string u] 50 30
  generalize (w.alloc (.cells #[.pointer (some ⟨x, 0, none⟩), .pointer (some ⟨m, 0, none⟩)] 50)).alloc (.cells #[.int .i64 1, .int .i64 W, .string s, .string t, .string u] 30) = W1 at *
  have hxW : W1.heap[x]? = some (.cells #[vx] 69 (0, 0)) := by rw [hbw.block x hxl]; exact hx
  refine (HA.out _ (ha.below hbw)).mono ?_
  rintro e w1 ⟨rfl, ha1, hg1⟩
  have p1 : w1.cell? ⟨w.heap.size, 1, none⟩ = some (.pointer (some ⟨m, 0, none⟩)) := hg1.cell (block_cell (j := 1) n0) (by simp; omega)
  have p2 : w1.cell? ⟨w.heap.size + 1, 2, none⟩ = some (.string s) := hg1.cell (block_cell (j := 2) n1) (by simp; omega)
  have hr1 := (hr.below hbw).grown hg1 hxW
  obtain ⟨vm, hm1⟩ := hr1.hd
  have HG1 := hid hg1
  have HA1 := hid ha1
  have HBW := hid hbw
  clear n0 n1 hg1 ha1 hbw hxW
  go_wp2_with fail
  refine (HRr.out _ hr1).mono ?_
  rintro e w2 ⟨rfl, hr2, hg2⟩
  have R := hid (And.intro (Pr.mk (HA1.out.grown hg2 hm1) hr2 HOK.out.1 HOK.out.2) ((Fr.of_below HBW.out).trans ((Fr.of_left (m := m) HG1.out).trans (Fr.of_right (x := x) hg2))))
  clear hr2 hg2 hm1 hr1 p1 p2
  generalize Al.loadP s.data.toList = E at *
  go_wp2_with (go_at_call 15; refine (num_any _ _).mono ?_; rintro e w' ⟨rfl, rfl⟩)
  go_ret
  exact ⟨rfl, R.out.1, R.out.2⟩
set_option maxRecDepth 100000 in
set_option maxHeartbeats 400000 in
theorem changes_add (x m : Nat) (A : List Al.St) (kd W : Int) (s t u : ByteArray) (w : World) (hs : s.size ≤ maxLen) (hp : Pr w x m A) (hk : kd = 2) :
    Calls Try.prog 47 #[.agg #[.pointer (some ⟨x, 0, none⟩), .pointer (some ⟨m, 0, none⟩)], .agg #[.int .i64 kd, .int .i64 W, .string s, .string t, .string u]] w fun e w' => e = .returned (.bool true) ∧ Pr w' x m (chAdd s.data.toList A) ∧ Fr x m w w' := by
  subst hk
  obtain ⟨ha, hr, hgood, hsmall⟩ := hp
  have HOK := hid (chAdd_ok s.data.toList hgood hsmall)
  obtain ⟨vx, hx⟩ := ha.hd
  have hxl := lt_of_block hx
  have HA := hid (fun wx (h : ASess wx x A) => aAdd_any x A s wx hs h hsmall)
  have HRr := hid (fun wx (h : RSess wx m A) => rAdd_any m A s wx hs h hgood hsmall)
  go_enter Try.func47, Try.ntmps47
  go_wp2_with fail
  obtain ⟨n0, n1, hbw, hsz⟩ := two_new w #[.pointer (some ⟨x, 0, none⟩), .pointer (some ⟨m, 0, none⟩)] #[.int .i64 2, .int .i64 W, .string s, .string t, .string u] 50 30
  generalize (w.alloc (.cells #[.pointer (some ⟨x, 0, none⟩), .pointer (some ⟨m, 0, none⟩)] 50)).alloc (.cells #[.int .i64 2, .int .i64 W, .string s, .string t, .string u] 30) = W1 at *
  have hxW : W1.heap[x]? = some (.cells #[vx] 69 (0, 0)) := by rw [hbw.block x hxl]; exact hx
  refine (HA.out _ (ha.below hbw)).mono ?_
  rintro e w1 ⟨rfl, ha1, hg1⟩
  have p1 : w1.cell? ⟨w.heap.size, 1, none⟩ = some (.pointer (some ⟨m, 0, none⟩)) := hg1.cell (block_cell (j := 1) n0) (by simp; omega)
  have p2 : w1.cell? ⟨w.heap.size + 1, 2, none⟩ = some (.string s) := hg1.cell (block_cell (j := 2) n1) (by simp; omega)
  have hr1 := (hr.below hbw).grown hg1 hxW
  obtain ⟨vm, hm1⟩ := hr1.hd
  have HG1 := hid hg1
  have HA1 := hid ha1
  have HBW := hid hbw
  clear n0 n1 hg1 ha1 hbw hxW
  go_wp2_with fail
  refine (HRr.out _ hr1).mono ?_
  rintro e w2 ⟨rfl, hr2, hg2⟩
  have R := hid (And.intro (Pr.mk (HA1.out.grown hg2 hm1) hr2 HOK.out.1 HOK.out.2) ((Fr.of_below HBW.out).trans ((Fr.of_left (m := m) HG1.out).trans (Fr.of_right (x := x) hg2))))
  clear hr2 hg2 hm1 hr1 p1 p2
  generalize addE s.data.toList A = E at *
  go_wp2_with (go_at_call 15; refine (num_any _ _).mono ?_; rintro e w' ⟨rfl, rfl⟩)
  go_ret
  exact ⟨rfl, R.out.1, R.out.2⟩
set_option maxRecDepth 100000 in
set_option maxHeartbeats 400000 in
theorem changes_drop (x m : Nat) (A : List Al.St) (kd W : Int) (s t u : ByteArray) (w : World) (hs : s.size ≤ maxLen) (hp : Pr w x m A) (h1 : kd ≠ 1) (h2 : kd ≠ 2) :
    Calls Try.prog 47 #[.agg #[.pointer (some ⟨x, 0, none⟩), .pointer (some ⟨m, 0, none⟩)], .agg #[.int .i64 kd, .int .i64 W, .string s, .string t, .string u]] w fun e w' => e = .returned (.bool true) ∧ Pr w' x m (chDrop s.data.toList A) ∧ Fr x m w w' := by
  obtain ⟨ha, hr, hgood, hsmall⟩ := hp
  have HOK := hid (chDrop_ok s.data.toList hgood hsmall)
  obtain ⟨vx, hx⟩ := ha.hd
  have hxl := lt_of_block hx
  have HA := hid (fun wx (h : ASess wx x A) => aDrop_any x A s wx hs h hgood hsmall)
  have HRr := hid (fun wx (h : RSess wx m A) => rDrop_any m A s wx hs h hgood hsmall)
  go_enter Try.func47, Try.ntmps47
  go_wp2_with fail
  obtain ⟨n0, n1, hbw, hsz⟩ := two_new w #[.pointer (some ⟨x, 0, none⟩), .pointer (some ⟨m, 0, none⟩)] #[.int .i64 kd, .int .i64 W, .string s, .string t, .string u] 50 30
  generalize (w.alloc (.cells #[.pointer (some ⟨x, 0, none⟩), .pointer (some ⟨m, 0, none⟩)] 50)).alloc (.cells #[.int .i64 kd, .int .i64 W, .string s, .string t, .string u] 30) = W1 at *
  have hxW : W1.heap[x]? = some (.cells #[vx] 69 (0, 0)) := by rw [hbw.block x hxl]; exact hx
  refine (HA.out _ (ha.below hbw)).mono ?_
  rintro e w1 ⟨rfl, ha1, hg1⟩
  have p1 : w1.cell? ⟨w.heap.size, 1, none⟩ = some (.pointer (some ⟨m, 0, none⟩)) := hg1.cell (block_cell (j := 1) n0) (by simp; omega)
  have p2 : w1.cell? ⟨w.heap.size + 1, 2, none⟩ = some (.string s) := hg1.cell (block_cell (j := 2) n1) (by simp; omega)
  have hr1 := (hr.below hbw).grown hg1 hxW
  obtain ⟨vm, hm1⟩ := hr1.hd
  have HG1 := hid hg1
  have HA1 := hid ha1
  have HBW := hid hbw
  clear n0 n1 hg1 ha1 hbw hxW
  go_wp2_with fail
  refine (HRr.out _ hr1).mono ?_
  rintro e w2 ⟨rfl, hr2, hg2⟩
  have R := hid (And.intro (Pr.mk (HA1.out.grown hg2 hm1) hr2 HOK.out.1 HOK.out.2) ((Fr.of_below HBW.out).trans ((Fr.of_left (m := m) HG1.out).trans (Fr.of_right (x := x) hg2))))
  clear hr2 hg2 hm1 hr1 p1 p2
  generalize dropE s.data.toList A = E at *
  go_wp2_with (go_at_call 15; refine (num_any _ _).mono ?_; rintro e w' ⟨rfl, rfl⟩)
  go_ret
  exact ⟨rfl, R.out.1, R.out.2⟩

end Go.Proofs.Ytmjlcajcobbcgab

namespace Go.Proofs.Ytmjlcajcobbcgab
open Go.RowKit

theorem Pr.below {w w' : World} {x m : Nat} {A : List Al.St} (h : Pr w x m A) (hb : Below w.heap.size w w') : Pr w' x m A := ⟨h.a.below hb, h.r.below hb, h.good, h.small⟩

set_option maxRecDepth 100000 in
set_option maxHeartbeats 400000 in
theorem step_ch (x m : Nat) (A : List Al.St) (kd W : Int) (s t u : ByteArray) (w : World) (hs : s.size ≤ maxLen) (hp : Pr w x m A) (hk : kd = 1 ∨ kd = 2 ∨ kd = 3) :
    Calls Try.prog 23 #[.agg #[.pointer (some ⟨x, 0, none⟩), .pointer (some ⟨m, 0, none⟩)], .agg #[.int .i64 kd, .int .i64 W, .string s, .string t, .string u]] w fun e w' => e = .returned (.bool true) ∧ (∃ A', Pr w' x m A') ∧ Fr x m w w' := by
  have HCH : Hid (∀ wx, Pr wx x m A → Calls Try.prog 47 #[.agg #[.pointer (some ⟨x, 0, none⟩), .pointer (some ⟨m, 0, none⟩)], .agg #[.int .i64 kd, .int .i64 W, .string s, .string t, .string u]] wx fun e w' => e = .returned (.bool true) ∧ (∃ A', Pr w' x m A') ∧ Fr x m wx w') := by
    intro wx hpx
    rcases hk with h | h | h
    · exact (changes_load x m A kd W s t u wx hs hpx h).mono fun e w' h => ⟨h.1, ⟨_, h.2.1⟩, h.2.2⟩
    · exact (changes_add x m A kd W s t u wx hs hpx h).mono fun e w' h => ⟨h.1, ⟨_, h.2.1⟩, h.2.2⟩
    · exact (changes_drop x m A kd W s t u wx hs hpx (by omega) (by omega)).mono fun e w' h => ⟨h.1, ⟨_, h.2.1⟩, h.2.2⟩
  obtain ⟨n0, n1, hbw, hsz⟩ := two_new w #[.pointer (some ⟨x, 0, none⟩), .pointer (some ⟨m, 0, none⟩)] #[.int .i64 kd, .int .i64 W, .string s, .string t, .string u] 50 30
  have HBW := hid hbw
  have HP := hid hp
  clear n0 n1 hbw hsz hp
  rcases hk with rfl | rfl | rfl
  all_goals
    go_enter Try.func23, Try.ntmps23
    go_wp2_with fail
    refine (HCH.out _ (HP.out.below HBW.out)).mono ?_
    rintro e w1 ⟨rfl, hpr, hfr⟩
    go_wp2_with fail
    go_ret
    exact ⟨rfl, hpr, (Fr.of_below HBW.out).trans hfr⟩

theorem and_one_i64 (W : Int) : bits BinOp.and IntKind.i64 W 1 = 0 ∨ bits BinOp.and IntKind.i64 W 1 = 1 := by
  have h : (BitVec.ofInt 64 W &&& BitVec.ofInt 64 1).toNat < 2 := by
    rw [BitVec.toNat_and, show (BitVec.ofInt 64 1).toNat = 1 from by decide, Nat.and_one_is_mod]; omega
  show IntKind.i64.wrap ((BitVec.ofInt 64 W &&& BitVec.ofInt 64 1).toNat : Int) = 0 ∨ IntKind.i64.wrap ((BitVec.ofInt 64 W &&& BitVec.ofInt 64 1).toNat : Int) = 1
  generalize (BitVec.ofInt 64 W &&& BitVec.ofInt 64 1).toNat = n at h
  match n, h with
  | 0, _ => exact .inl (by decide)
  | 1, _ => exact .inr (by decide)

def ptr (b : Nat) : Value := .pointer (some ⟨b, 0, none⟩)

/-- The two pairs of sessions, in the list at block w.heap.size. -/
def Ini (w wr : World) (k : Nat) : Prop :=
  Below w.heap.size w wr ∧
  ((k = 0 ∧ wr.heap[w.heap.size]? = some (.cells #[.pointer none, .pointer none, .pointer none, .pointer none] 50 (0, 0))) ∨
   (k = 1 ∧ ∃ x m, w.heap.size ≤ x ∧ w.heap.size ≤ m ∧ wr.heap[w.heap.size]? = some (.cells #[.pointer (some ⟨x, 0, none⟩), .pointer (some ⟨m, 0, none⟩), .pointer none, .pointer none] 50 (0, 0)) ∧ Pr wr x m []) ∨
   (k = 2 ∧ ∃ x m y n, w.heap.size ≤ x ∧ w.heap.size ≤ m ∧ w.heap.size ≤ y ∧ w.heap.size ≤ n ∧ x ≠ y ∧ m ≠ n ∧
     wr.heap[w.heap.size]? = some (.cells #[.pointer (some ⟨x, 0, none⟩), .pointer (some ⟨m, 0, none⟩), .pointer (some ⟨y, 0, none⟩), .pointer (some ⟨n, 0, none⟩)] 50 (0, 0)) ∧ Pr wr x m [] ∧ Pr wr y n []))

/-- Two pointers stored into the list, a block laid. -/
theorem put_two {w1 : World} {b o : Nat} {cur : Array Value} (u v : Value) (C : Obj) (hL : w1.heap[b]? = some (.cells cur 50 (0, 0))) :
    (((w1.setCell ⟨b, o, none⟩ u).setCell ⟨b, o + 1, none⟩ v).alloc C).heap[b]? = some (.cells ((cur.setIfInBounds o u).setIfInBounds (o + 1) v) 50 (0, 0)) ∧
      w1.grownBy (((w1.setCell ⟨b, o, none⟩ u).setCell ⟨b, o + 1, none⟩ v).alloc C) (some b) := by
  have hlt := lt_of_block hL
  have hsz : ((w1.setCell ⟨b, o, none⟩ u).setCell ⟨b, o + 1, none⟩ v).heap.size = w1.heap.size := by simp [World.setCell]
  refine ⟨?_, rfl, rfl, rfl, by rw [World.size_alloc, hsz]; omega, fun k hk hne => ?_⟩
  · rw [Below.heap_alloc _ _ _ (by rw [hsz]; exact hlt)]
    exact block_setCell _ (block_setCell _ hL)
  · have hne' : k ≠ b := by simpa using hne
    rw [Below.heap_alloc _ _ _ (by rw [hsz]; exact hk), Below.heap_setCell _ _ _ _ hne', Below.heap_setCell _ _ _ _ hne']

theorem Pr.list {w w' : World} {x m b : Nat} {A : List Al.St} {cur : Array Value} (h : Pr w x m A) (hf : w.grownBy w' (some b)) (hb : w.heap[b]? = some (.cells cur 50 (0, 0))) : Pr w' x m A := by
  obtain ⟨v, h1, h2⟩ := h.a.ex
  obtain ⟨v', h3, h4⟩ := h.r.ex
  refine ⟨⟨v, ?_, ?_⟩, ⟨v', ?_, ?_⟩, h.good, h.small⟩
  · rw [hf.block x (lt_of_block h1) (fun e => by simp at e; rw [e, hb] at h1; simp at h1)]; exact h1
  · exact ownsRow_stays h2 fun g cur' hg => hf.block g (lt_of_block hg) (fun e => by simp at e; rw [e, hb] at hg; simp at hg)
  · rw [hf.block m (lt_of_block h3) (fun e => by simp at e; rw [e, hb] at h3; simp at h3)]; exact h3
  · exact ownsRow_stays h4 fun g cur' hg => hf.block g (lt_of_block hg) (fun e => by simp at e; rw [e, hb] at hg; simp at hg)


/-- The two pairs, whatever their programs. -/
def Inv (w wr : World) : Prop :=
  ∃ x m y n A A', w.heap.size ≤ x ∧ w.heap.size ≤ m ∧ w.heap.size ≤ y ∧ w.heap.size ≤ n ∧ x ≠ y ∧ m ≠ n ∧
     wr.heap[w.heap.size]? = some (.cells #[.pointer (some ⟨x, 0, none⟩), .pointer (some ⟨m, 0, none⟩), .pointer (some ⟨y, 0, none⟩), .pointer (some ⟨n, 0, none⟩)] 50 (0, 0)) ∧ Pr wr x m A ∧ Pr wr y n A' ∧ Below w.heap.size w wr

theorem Pr.other {w w' : World} {x m y n : Nat} {A A' : List Al.St} (h : Pr w y n A') (hp : Pr w x m A) (hf : Fr x m w w') (hxy : x ≠ y) (hmn : m ≠ n) : Pr w' y n A' := by
  obtain ⟨vx, hx⟩ := hp.a.hd
  obtain ⟨vm, hm⟩ := hp.r.hd
  exact ⟨h.a.fr hf (Ne.symm hxy) hx hm, h.r.fr hf (Ne.symm hmn) hx hm, h.good, h.small⟩
theorem list_fr {w w' : World} {x m b : Nat} {A : List Al.St} {cur : Array Value} (hp : Pr w x m A) (hf : Fr x m w w') (hb : w.heap[b]? = some (.cells cur 50 (0, 0))) : w'.heap[b]? = some (.cells cur 50 (0, 0)) := by
  obtain ⟨vx, hx⟩ := hp.a.hd
  obtain ⟨vm, hm⟩ := hp.r.hd
  rw [hf.block b (lt_of_block hb) (fun e => by rw [e, hx] at hb; simp at hb) (fun e => by rw [e, hm] at hb; simp at hb)]
  exact hb

theorem ini_one {w wr w1 : World} {x m : Nat} (C : Obj) (hbel : Below w.heap.size w wr) (hL : wr.heap[w.heap.size]? = some (.cells #[.pointer none, .pointer none, .pointer none, .pointer none] 50 (0, 0)))
    (hx : wr.heap.size ≤ x) (hm : wr.heap.size ≤ m) (hp : Pr w1 x m []) (hbel1 : Below wr.heap.size wr w1) :
    Ini w (((w1.setCell ⟨w.heap.size, 0, none⟩ (.pointer (some ⟨x, 0, none⟩))).setCell ⟨w.heap.size, 1, none⟩ (.pointer (some ⟨m, 0, none⟩))).alloc C) 1 := by
  have hsz := hbel.size
  have hL1 : w1.heap[w.heap.size]? = some (.cells #[.pointer none, .pointer none, .pointer none, .pointer none] 50 (0, 0)) := by rw [hbel1.block _ (lt_of_block hL)]; exact hL
  obtain ⟨q1, q2⟩ := put_two (o := 0) (.pointer (some ⟨x, 0, none⟩)) (.pointer (some ⟨m, 0, none⟩)) C hL1
  exact ⟨below_of_grown (hbel.trans (hbel1.mono hsz)) q2 (Nat.le_trans hsz hbel1.size) (Nat.le_refl _), .inr (.inl ⟨rfl, x, m, by omega, by omega, q1, hp.list q2 hL1⟩)⟩
theorem ini_two {w wr w1 : World} {x m y n : Nat} (C : Obj) (hbel : Below w.heap.size w wr) (hx : w.heap.size ≤ x) (hm : w.heap.size ≤ m) (hL : wr.heap[w.heap.size]? = some (.cells #[.pointer (some ⟨x, 0, none⟩), .pointer (some ⟨m, 0, none⟩), .pointer none, .pointer none] 50 (0, 0)))
    (hp : Pr wr x m []) (hy : wr.heap.size ≤ y) (hn : wr.heap.size ≤ n) (hq : Pr w1 y n []) (hbel1 : Below wr.heap.size wr w1) :
    Ini w (((w1.setCell ⟨w.heap.size, 2, none⟩ (.pointer (some ⟨y, 0, none⟩))).setCell ⟨w.heap.size, 3, none⟩ (.pointer (some ⟨n, 0, none⟩))).alloc C) 2 := by
  have hsz := hbel.size
  have hL1 : w1.heap[w.heap.size]? = some (.cells #[.pointer (some ⟨x, 0, none⟩), .pointer (some ⟨m, 0, none⟩), .pointer none, .pointer none] 50 (0, 0)) := by rw [hbel1.block _ (lt_of_block hL)]; exact hL
  obtain ⟨q1, q2⟩ := put_two (o := 2) (.pointer (some ⟨y, 0, none⟩)) (.pointer (some ⟨n, 0, none⟩)) C hL1
  obtain ⟨vx, hvx⟩ := hp.a.hd
  obtain ⟨vm, hvm⟩ := hp.r.hd
  have h1 := lt_of_block hvx
  have h2 := lt_of_block hvm
  exact ⟨below_of_grown (hbel.trans (hbel1.mono hsz)) q2 (Nat.le_trans hsz hbel1.size) (Nat.le_refl _), .inr (.inr ⟨rfl, x, m, y, n, hx, hm, by omega, by omega, by omega, by omega, q1, (hp.below hbel1).list q2 hL1, hq.list q2 hL1⟩)⟩

theorem Inv.below {w wr W : World} (h : Inv w wr) (hb : Below wr.heap.size wr W) : Inv w W := by
  obtain ⟨x, m, y, n, A, A', hx, hm, hy, hn, hxy, hmn, hL, hp, hq, hbel⟩ := h
  exact ⟨x, m, y, n, A, A', hx, hm, hy, hn, hxy, hmn, by rw [hb.block _ (lt_of_block hL)]; exact hL, hp.below hb, hq.below hb, hbel.trans (hb.mono hbel.size)⟩

/-- The list as it lies. -/
def Lay (w wr : World) (x m y n : Nat) : Prop := wr.heap[w.heap.size]? = some (.cells #[.pointer (some ⟨x, 0, none⟩), .pointer (some ⟨m, 0, none⟩), .pointer (some ⟨y, 0, none⟩), .pointer (some ⟨n, 0, none⟩)] 50 (0, 0))

/-- Behind a step of the first pair, of the second. -/
theorem inv_left {w W w2 : World} {x m y n : Nat} {A A' A2 : List Al.St} (hx : w.heap.size ≤ x) (hm : w.heap.size ≤ m) (hy : w.heap.size ≤ y) (hn : w.heap.size ≤ n) (hxy : x ≠ y) (hmn : m ≠ n)
    (hL : Lay w W x m y n) (hp : Pr W x m A) (hq : Pr W y n A') (hbel : Below w.heap.size w W) (hp2 : Pr w2 x m A2) (hf : Fr x m W w2) : Inv w w2 :=
  ⟨x, m, y, n, A2, A', hx, hm, hy, hn, hxy, hmn, list_fr hp hf hL, hp2, hq.other hp hf hxy hmn, hbel.trans (hf.below hbel.size hx hm)⟩
theorem inv_right {w W w2 : World} {x m y n : Nat} {A A' A2 : List Al.St} (hx : w.heap.size ≤ x) (hm : w.heap.size ≤ m) (hy : w.heap.size ≤ y) (hn : w.heap.size ≤ n) (hxy : x ≠ y) (hmn : m ≠ n)
    (hL : Lay w W x m y n) (hp : Pr W x m A) (hq : Pr W y n A') (hbel : Below w.heap.size w W) (hq2 : Pr w2 y n A2) (hf : Fr y n W w2) : Inv w w2 :=
  ⟨x, m, y, n, A, A2, hx, hm, hy, hn, hxy, hmn, list_fr hq hf hL, hp.other hq hf (Ne.symm hxy) (Ne.symm hmn), hq2, hbel.trans (hf.below hbel.size hy hn)⟩
/-- Behind a New of the first pair, of the second. -/
theorem inv_new0 {w W w1 : World} {x m y n x' m' : Nat} {A A' : List Al.St} (C : Obj) (_hx : w.heap.size ≤ x) (_hm : w.heap.size ≤ m) (hy : w.heap.size ≤ y) (hn : w.heap.size ≤ n)
    (hL : Lay w W x m y n) (hq : Pr W y n A') (hbel : Below w.heap.size w W) (hx' : W.heap.size ≤ x') (hm' : W.heap.size ≤ m') (hp' : Pr w1 x' m' A) (hb1 : Below W.heap.size W w1) :
    Inv w (((w1.setCell ⟨w.heap.size, 0, none⟩ (.pointer (some ⟨x', 0, none⟩))).setCell ⟨w.heap.size, 1, none⟩ (.pointer (some ⟨m', 0, none⟩))).alloc C) := by
  have hsz := hbel.size
  have hL1 : Lay w w1 x m y n := by unfold Lay at *; rw [hb1.block _ (lt_of_block hL)]; exact hL
  obtain ⟨q1, q2⟩ := put_two (o := 0) (.pointer (some ⟨x', 0, none⟩)) (.pointer (some ⟨m', 0, none⟩)) C hL1
  obtain ⟨vy, hvy⟩ := hq.a.hd
  obtain ⟨vn, hvn⟩ := hq.r.hd
  have h1 := lt_of_block hvy
  have h2 := lt_of_block hvn
  exact ⟨x', m', y, n, A, A', by omega, by omega, hy, hn, by omega, by omega, q1, hp'.list q2 hL1, (hq.below hb1).list q2 hL1, below_of_grown (hbel.trans (hb1.mono hsz)) q2 (Nat.le_trans hsz hb1.size) (Nat.le_refl _)⟩
theorem inv_new1 {w W w1 : World} {x m y n x' m' : Nat} {A A' : List Al.St} (C : Obj) (hx : w.heap.size ≤ x) (hm : w.heap.size ≤ m) (_hy : w.heap.size ≤ y) (_hn : w.heap.size ≤ n)
    (hL : Lay w W x m y n) (hp : Pr W x m A) (hbel : Below w.heap.size w W) (hx' : W.heap.size ≤ x') (hm' : W.heap.size ≤ m') (hp' : Pr w1 x' m' A') (hb1 : Below W.heap.size W w1) :
    Inv w (((w1.setCell ⟨w.heap.size, 2, none⟩ (.pointer (some ⟨x', 0, none⟩))).setCell ⟨w.heap.size, 3, none⟩ (.pointer (some ⟨m', 0, none⟩))).alloc C) := by
  have hsz := hbel.size
  have hL1 : Lay w w1 x m y n := by unfold Lay at *; rw [hb1.block _ (lt_of_block hL)]; exact hL
  obtain ⟨q1, q2⟩ := put_two (o := 2) (.pointer (some ⟨x', 0, none⟩)) (.pointer (some ⟨m', 0, none⟩)) C hL1
  obtain ⟨vy, hvy⟩ := hp.a.hd
  obtain ⟨vn, hvn⟩ := hp.r.hd
  have h1 := lt_of_block hvy
  have h2 := lt_of_block hvn
  exact ⟨x, m, x', m', A, A', hx, hm, by omega, by omega, by omega, by omega, q1, (hp.below hb1).list q2 hL1, hp'.list q2 hL1, below_of_grown (hbel.trans (hb1.mono hsz)) q2 (Nat.le_trans hsz hb1.size) (Nat.le_refl _)⟩

end Go.Proofs.Ytmjlcajcobbcgab
