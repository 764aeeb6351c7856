import Derived.Test.YtljafkdaljkanaaProgI
namespace Go.Proofs.Ytljafkdaljkanaa
open Go.RowKit

/-- Only two blocks of what was there may have turned. -/
structure Fr (x m : Nat) (w w' : World) : Prop where
  os : w'.os = w.os
  tape : w'.tape = w.tape
  output : w'.output = w.output
  size : w.heap.size ≤ w'.heap.size
  block : ∀ k, k < w.heap.size → k ≠ x → k ≠ m → w'.heap[k]? = w.heap[k]?

theorem Fr.of_below {x m : Nat} {w w' : World} (h : Below w.heap.size w w') : Fr x m w w' := ⟨h.os, h.tape, h.output, h.size, fun k hk _ _ => h.block k hk⟩
theorem Fr.of_left {x m : Nat} {w w' : World} (h : w.grownBy w' (some x)) : Fr x m w w' := ⟨h.os, h.tape, h.output, h.size, fun k hk h1 _ => h.block k hk (by simpa using h1)⟩
theorem Fr.of_right {x m : Nat} {w w' : World} (h : w.grownBy w' (some m)) : Fr x m w w' := ⟨h.os, h.tape, h.output, h.size, fun k hk _ h1 => h.block k hk (by simpa using h1)⟩
theorem Fr.trans {x m : Nat} {a b c : World} (h : Fr x m a b) (k : Fr x m b c) : Fr x m a c :=
  ⟨k.os.trans h.os, k.tape.trans h.tape, k.output.trans h.output, Nat.le_trans h.size k.size, fun i hi h1 h2 => (k.block i (Nat.lt_of_lt_of_le hi h.size) h1 h2).trans (h.block i hi h1 h2)⟩
theorem Fr.below {x m B : Nat} {w w' : World} (h : Fr x m w w') (hB : B ≤ w.heap.size) (hx : B ≤ x) (hm : B ≤ m) : Below B w w' :=
  ⟨h.os, h.tape, h.output, h.size, fun k hk => h.block k (by omega) (by omega) (by omega)⟩

/-- What a session reads stays, while blocks of other kinds are written. -/
theorem ownsRow_stays {w w' : World} {base : Nat} {e : TypeId} {size : Nat} {v : Value} {n : Nat} {xs : List Value} (h : w.ownsRow base e size v n xs)
    (hk : ∀ (g : Nat) (cur : Array Value), w.heap[g]? = some (Obj.cells cur e (0, 0)) → w'.heap[g]? = w.heap[g]?) : w'.ownsRow base e size v n xs := by
  refine ⟨h.1, ?_⟩
  rcases h.2 with hn | ⟨g, cap, cur, rfl, hg0, hg, rest⟩
  · exact .inl hn
  · exact .inr ⟨g, cap, cur, rfl, hg0, by rw [hk g cur hg]; exact hg, rest⟩

/-- A session of the program and one of the document side by side, both with the statements A. -/
structure Pr (w : World) (x m : Nat) (A : List Al.St) : Prop where
  a : ASess w x A
  r : RSess w m A
  good : Al.Good A
  small : A.length ≤ 24

theorem ASess.hd {w : World} {b : Nat} {A : List Al.St} (h : ASess w b A) : ∃ v, w.heap[b]? = some (.cells #[v] 70 (0, 0)) := let ⟨v, h1, _⟩ := h.ex; ⟨v, h1⟩
theorem RSess.hd {w : World} {b : Nat} {A : List Al.St} (h : RSess w b A) : ∃ v, w.heap[b]? = some (.cells #[v] 31 (0, 0)) := let ⟨v, h1, _⟩ := h.ex; ⟨v, h1⟩

theorem ASess.fr {w w' : World} {b x m : Nat} {A : List Al.St} {vx vm : Value} (h : ASess w b A) (hf : Fr x m w w') (hne : b ≠ x) (hx : w.heap[x]? = some (.cells #[vx] 70 (0, 0))) (hm : w.heap[m]? = some (.cells #[vm] 31 (0, 0))) : ASess w' b A := by
  obtain ⟨v, h1, h2⟩ := h.ex
  have hbm : b ≠ m := fun e => by rw [e, hm] at h1; simp at h1
  refine ⟨v, by rw [hf.block b (lt_of_block h1) hne hbm]; exact h1, ownsRow_stays h2 fun g cur hg => hf.block g (lt_of_block hg) (fun e => ?_) (fun e => ?_)⟩
  · rw [e, hx] at hg; simp at hg
  · rw [e, hm] at hg; simp at hg
theorem RSess.fr {w w' : World} {b x m : Nat} {A : List Al.St} {vx vm : Value} (h : RSess w b A) (hf : Fr x m w w') (hne : b ≠ m) (hx : w.heap[x]? = some (.cells #[vx] 70 (0, 0))) (hm : w.heap[m]? = some (.cells #[vm] 31 (0, 0))) : RSess w' b A := by
  obtain ⟨v, h1, h2⟩ := h.ex
  have hbx : b ≠ x := fun e => by rw [e, hx] at h1; simp at h1
  refine ⟨v, by rw [hf.block b (lt_of_block h1) hbx hne]; exact h1, ownsRow_stays h2 fun g cur hg => hf.block g (lt_of_block hg) (fun e => ?_) (fun e => ?_)⟩
  · rw [e, hx] at hg; simp at hg
  · rw [e, hm] at hg; simp at hg

/-- One of the two is written: the other one stays. -/
theorem RSess.grown {w w' : World} {b x : Nat} {A : List Al.St} {vx : Value} (h : RSess w b A) (hf : w.grownBy w' (some x)) (hx : w.heap[x]? = some (.cells #[vx] 70 (0, 0))) : RSess w' b A := by
  obtain ⟨v, h1, h2⟩ := h.ex
  have hbx : b ≠ x := fun e => by rw [e, hx] at h1; simp at h1
  refine ⟨v, by rw [hf.block b (lt_of_block h1) (by simpa using hbx)]; exact h1, ownsRow_stays h2 fun g cur hg => hf.block g (lt_of_block hg) (fun e => ?_)⟩
  simp at e; rw [e, hx] at hg; simp at hg
theorem ASess.grown {w w' : World} {b x : Nat} {A : List Al.St} {vx : Value} (h : ASess w b A) (hf : w.grownBy w' (some x)) (hx : w.heap[x]? = some (.cells #[vx] 31 (0, 0))) : ASess w' b A := by
  obtain ⟨v, h1, h2⟩ := h.ex
  have hbx : b ≠ x := fun e => by rw [e, hx] at h1; simp at h1
  refine ⟨v, by rw [hf.block b (lt_of_block h1) (by simpa using hbx)]; exact h1, ownsRow_stays h2 fun g cur hg => hf.block g (lt_of_block hg) (fun e => ?_)⟩
  simp at e; rw [e, hx] at hg; simp at hg

theorem num_any (n : Int) (w : World) : Calls Try.prog 33 #[.int .i64 n] w fun e w' => e = .returned (.int .i64 n) ∧ w' = w := by
  go_enter Try.func33, Try.ntmps33
  go_wp2
  go_ret
  exact ⟨rfl, rfl⟩
theorem New_any (w : World) : Calls Try.prog 37 #[] w fun e w' => e = .returned (.pointer (some ⟨w.heap.size, 0, none⟩)) ∧ w' = w.alloc (.cells #[.slice none 0 0] 70) := by
  go_enter Try.func37, Try.ntmps37
  go_wp2
  go_ret
  exact ⟨rfl, rfl⟩

theorem nil_A (w : World) : RdA w (.slice none 0 0) [] := World.ownsRow_nil _ _ _ _
theorem nil_R (w : World) : RdS w (.slice none 0 0) [] := World.ownsRow_nil _ _ _ _

set_option maxRecDepth 100000 in
set_option maxHeartbeats 400000 in
theorem fresh_any (w : World) : Calls Try.prog 39 #[] w fun e w' => ∃ x m, e = .returned (.tuple #[.agg #[.pointer (some ⟨x, 0, none⟩), .pointer (some ⟨m, 0, none⟩)], .bool true]) ∧ w.heap.size ≤ x ∧ w.heap.size ≤ m ∧ Pr w' x m [] ∧ Below w.heap.size w w' := by
  go_enter Try.func39, Try.ntmps39
  go_wp2_with fail
  refine (New_any _).mono ?_
  rintro e w1 ⟨rfl, rfl⟩
  go_wp2_with fail
  refine bodyPost_ret (v := .tuple #[.agg #[.pointer (some ⟨w.heap.size + 1, 0, none⟩), .pointer (some ⟨w.heap.size + 2, 0, none⟩)], .bool true]) (by simp [results, Try.results39, go_sem]) rfl ⟨w.heap.size + 1, w.heap.size + 2, rfl, by omega, by omega, ?_, ?_⟩
  · refine ⟨⟨.slice none 0 0, ?_, nil_A _⟩, ⟨.slice none 0 0, ?_, nil_R _⟩, Al.good_nil, by simp⟩
    · rw [Below.heap_alloc _ _ _ (by simp)]; exact heap2 w _ _
    · have := heap_alloc_new ((w.alloc (.cells #[.pointer (some ⟨w.heap.size + 1, 0, none⟩), .pointer (some ⟨w.heap.size + 1 + 1, 0, none⟩)] 36)).alloc (.cells #[.slice none 0 0] 70)) (.cells #[.slice none 0 0] 31)
      rw [World.size_alloc, World.size_alloc] at this
      exact this
  · exact (((Below.refl _ _).alloc (Nat.le_refl _) _).alloc (by simp) _).alloc (by simp; omega) _
end Go.Proofs.Ytljafkdaljkanaa
