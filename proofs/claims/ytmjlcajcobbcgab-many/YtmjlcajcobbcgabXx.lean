import Derived.Test.YtmjlcajcobbcgabYLawF
import Derived.Test.YtmjlcajcobbcgabXj
import Derived.Test.YtmjlcajcobbcgabYStepC
namespace Go.Proofs.Ytmjlcajcobbcgab
open Go.RowKit

/-! As many pairs of sessions as a script makes. -/
def flatW (L : List (Nat × Nat)) : List Value := L.flatMap fun p => [.pointer (some ⟨p.1, 0, none⟩), .pointer (some ⟨p.2, 0, none⟩)]
theorem flatW_len (L : List (Nat × Nat)) : (flatW L).length = L.length * 2 := by
  induction L with
  | nil => rfl
  | cons p L ih => simp only [flatW, List.flatMap_cons, List.length_append, List.length_cons, List.length_nil] at ih ⊢; omega
theorem flatW_snoc (L : List (Nat × Nat)) (p : Nat × Nat) : flatW (L ++ [p]) = flatW L ++ [.pointer (some ⟨p.1, 0, none⟩), .pointer (some ⟨p.2, 0, none⟩)] := by simp [flatW]
theorem flatW_get : ∀ (L : List (Nat × Nat)) (i : Nat) (h : i < L.length), (flatW L)[i * 2]? = some (.pointer (some ⟨L[i].1, 0, none⟩)) ∧ (flatW L)[i * 2 + 1]? = some (.pointer (some ⟨L[i].2, 0, none⟩))
  | [], i, h => by simp at h
  | p :: L, 0, _ => ⟨rfl, rfl⟩
  | p :: L, i + 1, h => by
    have ih := flatW_get L i (by simpa using h)
    have e : flatW (p :: L) = .pointer (some ⟨p.1, 0, none⟩) :: .pointer (some ⟨p.2, 0, none⟩) :: flatW L := rfl
    rw [e, show (i + 1) * 2 = i * 2 + 1 + 1 from by omega]
    simp only [List.getElem?_cons_succ, List.getElem_cons_succ]
    exact ih

structure WList (w wr : World) (v : Value) (L : List (Nat × Nat)) : Prop where
  own : wr.ownsRow w.heap.size 50 2 v L.length (flatW L)
  pr : ∀ p ∈ L, ∃ A, Pr wr p.1 p.2 A
  ge : ∀ p ∈ L, w.heap.size ≤ p.1 ∧ w.heap.size ≤ p.2
  apart : L.Pairwise fun p q => p.1 ≠ q.1 ∧ p.2 ≠ q.2
  bel : Below w.heap.size w wr
theorem WList.below {w wr w' : World} {v : Value} {L : List (Nat × Nat)} (h : WList w wr v L) (hb : Below wr.heap.size wr w') : WList w w' v L :=
  ⟨ownsRow_below h.own hb, fun p hp => let ⟨A, hA⟩ := h.pr p hp; ⟨A, hA.below hb⟩, h.ge, h.apart, h.bel.trans (hb.mono h.bel.size)⟩
theorem WList.lt {w wr : World} {v : Value} {L : List (Nat × Nat)} (h : WList w wr v L) {p : Nat × Nat} (hp : p ∈ L) : p.1 < wr.heap.size ∧ p.2 < wr.heap.size := by
  obtain ⟨A, hA⟩ := h.pr p hp
  obtain ⟨vx, hx⟩ := hA.a.hd
  obtain ⟨vm, hm⟩ := hA.r.hd
  exact ⟨lt_of_block hx, lt_of_block hm⟩
theorem pair_apart : ∀ {L : List (Nat × Nat)}, (L.Pairwise fun p q => p.1 ≠ q.1 ∧ p.2 ≠ q.2) → ∀ p ∈ L, ∀ q ∈ L, p ≠ q → p.1 ≠ q.1 ∧ p.2 ≠ q.2
  | [], _, p, hp, _, _, _ => by simp at hp
  | a :: L, h, p, hp, q, hq, hne => by
    rw [List.pairwise_cons] at h
    rcases List.mem_cons.1 hp with e1 | h1
    · rcases List.mem_cons.1 hq with e2 | h2
      · exact absurd (e1.trans e2.symm) hne
      · rw [e1]; exact h.1 q h2
    · rcases List.mem_cons.1 hq with e2 | h2
      · have := h.1 p h1
        rw [e2]
        exact ⟨Ne.symm this.1, Ne.symm this.2⟩
      · exact pair_apart h.2 p h1 q h2 hne
/-- One of the pairs is played. -/
theorem WList.step {w wr w' : World} {v : Value} {L : List (Nat × Nat)} (h : WList w wr v L) {p : Nat × Nat} (hp : p ∈ L) {A' : List Al.St} (h1 : Pr w' p.1 p.2 A') (hf : Fr p.1 p.2 wr w') : WList w w' v L := by
  obtain ⟨A, hA⟩ := h.pr p hp
  obtain ⟨vx, hx⟩ := hA.a.hd
  obtain ⟨vm, hm⟩ := hA.r.hd
  have hg := h.ge p hp
  refine ⟨ownsRow_stays h.own fun g cur hg' => hf.block g (lt_of_block hg') (fun e => ?_) (fun e => ?_), fun q hq => ?_, h.ge, h.apart, h.bel.trans (hf.below h.bel.size hg.1 hg.2)⟩
  · rw [e, hx] at hg'; simp at hg'
  · rw [e, hm] at hg'; simp at hg'
  · by_cases e : q = p
    · subst e; exact ⟨A', h1⟩
    · obtain ⟨B, hB⟩ := h.pr q hq
      have ha := pair_apart h.apart p hp q hq (fun e' => e e'.symm)
      exact ⟨B, hB.other hA hf ha.1 ha.2⟩
/-- The list's own block is written, or a new one is made. -/
theorem Pr.row {w w' : World} {x m : Nat} {A : List Al.St} {v : Value} {base n : Nat} {xs : List Value} (h : Pr w x m A) (hown : w.ownsRow base 50 2 v n xs) (hf : w.grownBy w' v.ownBlock) : Pr w' x m A := by
  rcases hown.2 with ⟨rfl, _⟩ | ⟨g, cap, cur, rfl, _, hg, _⟩
  · exact h.below ⟨hf.os, hf.tape, hf.output, hf.size, fun k hk => hf.block k hk (by simp [Value.ownBlock])⟩
  · exact h.list (b := g) hf hg
theorem WList.push {w wr w1 w' : World} {v v' : Value} {L : List (Nat × Nat)} {x m : Nat} (h : WList w wr v L) (hx : wr.heap.size ≤ x) (hm : wr.heap.size ≤ m) (hb1 : Below wr.heap.size wr w1) {A : List Al.St} (hp : Pr w1 x m A)
    (C : Obj) (hown : w'.ownsRow w.heap.size 50 2 v' (L.length + 1) (flatW L ++ [.pointer (some ⟨x, 0, none⟩), .pointer (some ⟨m, 0, none⟩)])) (hbel : Below w.heap.size w w') (hf : (w1.alloc C).grownBy w' v.ownBlock) : WList w w' v' (L ++ [(x, m)]) := by
  have h2 := (h.below hb1).below ((Below.refl _ w1).alloc (Nat.le_refl _) C)
  have hs := h.bel.size
  refine ⟨by rw [flatW_snoc, List.length_append]; exact hown, fun p hp' => ?_, fun p hp' => ?_, ?_, hbel⟩
  · rcases List.mem_append.1 hp' with hp' | hp'
    · obtain ⟨B, hB⟩ := h2.pr p hp'
      exact ⟨B, hB.row h2.own hf⟩
    · simp only [List.mem_singleton] at hp'
      subst hp'
      exact ⟨A, (hp.below ((Below.refl _ w1).alloc (Nat.le_refl _) C)).row h2.own hf⟩
  · rcases List.mem_append.1 hp' with hp' | hp'
    · exact h.ge p hp'
    · simp only [List.mem_singleton] at hp'
      subst hp'
      exact ⟨by simp only; omega, by simp only; omega⟩
  · rw [List.pairwise_append]
    refine ⟨h.apart, by simp, fun p hp' q hq => ?_⟩
    simp only [List.mem_singleton] at hq
    subst hq
    have := h.lt hp'
    exact ⟨by simp only; omega, by simp only; omega⟩
theorem WList.cells {w wr : World} {v : Value} {L : List (Nat × Nat)} (h : WList w wr v L) (hne : 0 < L.length) : ∃ g cap, v = .slice (some ⟨g, 0, none⟩) L.length cap ∧ L.length ≤ cap ∧ g < wr.heap.size ∧ ∀ i (hi : i < L.length), wr.cell? ⟨g, i * 2, none⟩ = some (.pointer (some ⟨L[i].1, 0, none⟩)) ∧ wr.cell? ⟨g, i * 2 + 1, none⟩ = some (.pointer (some ⟨L[i].2, 0, none⟩)) := by
  rcases h.own.2 with ⟨_, h0⟩ | ⟨g, cap, cur, rfl, _, hg, hc, _⟩
  · omega
  · refine ⟨g, cap, rfl, hc, lt_of_block hg, fun i hi => ?_⟩
    have e := flatW_get L i hi
    have ad : ∀ j, (⟨g, 0, none⟩ : Addr).add j = ⟨g, j, none⟩ := fun j => by unfold Addr.add; split <;> simp_all
    have c1 := h.own.cells (g := g) rfl (i * 2) _ e.1
    have c2 := h.own.cells (g := g) rfl (i * 2 + 1) _ e.2
    rw [ad] at c1 c2
    exact ⟨c1, c2⟩
end Go.Proofs.Ytmjlcajcobbcgab

namespace Go.Proofs.Ytmjlcajcobbcgab
open Go.RowKit

/-- As append_grow, for longer rows. -/
theorem append_far {P : Program} {ops : Array Oper} {rest : List Oper} {o : Oper} {a : Act} {Q : Exit → Act → World → Prop} {w0 wb : World} (hgd : o.guard = none) (s x : Operand) (t : TypeId)
    (ho : o.op = .call { callee := .builtin .append, args := #[s, x], argTypes := #[t, t] })
    (base : Nat) (e : TypeId) (i : TypeInfo) (z : Value) (size bytes : Nat) (ht : P.underlying t = some (.slice e)) (hi : P.info? e = some i) (hz : i.zero = some z)
    (hsize : i.size = size) (hby : i.bytes = bytes) (hzs : z.cells.size = size) (hsz : 0 < size)
    (v : Value) (n : Nat) (xs : List Value) (hs : a.eval s = v) (hown : wb.ownsRow base e size v n xs) (cur : Array Value) (hcur : cur.size = size) (h1 : ∀ u ∈ cur.toList, u.oneCell' = true)
    (hx : a.eval x = .slice (some ⟨wb.heap.size, 0, none⟩) 1 1) (hn : n + 1 ≤ 4398046511104) (hb : bytes ≤ 32) (hbase : base ≤ wb.heap.size) (hbel : Below base w0 wb)
    (h : ∀ v' w', w'.ownsRow base e size v' (n + 1) (xs ++ cur.toList) → Below base w0 w' → (wb.alloc (.cells cur e)).grownBy w' v.ownBlock → wpList P ops Q rest (a.put o.dst v') w') : wpList P ops Q (o :: rest) a (wb.alloc (.cells cur e)) := by
  refine wpList_append_own _ hgd s x t ho base e i z size bytes ht hi hz hsize hby hzs hsz v n xs hs (hown.alloc _) ⟨wb.heap.size, 0, none⟩ 1 1 cur.toList hx (by simpa using hcur) ?_ h1 ?_ ?_ ?_ ?_
  · intro j u hj
    have hadd : (⟨wb.heap.size, 0, none⟩ : Addr).add j = ⟨wb.heap.size, j, none⟩ := by unfold Addr.add; split <;> simp_all
    rw [hadd, cell_of_row (wb.alloc (.cells cur e)) wb.heap.size j cur e (0, 0) (heap_alloc_new wb _)]
    simpa using hj
  · simp only [maxLen]; omega
  · exact Nat.le_trans (Nat.mul_le_mul hn hb) (by decide)
  · simp; omega
  · intro v' w' h2 h3 _
    refine h v' w' h2 ((hbel.alloc hbase _).grown h3 (by simp; omega) ?_) h3
    intro k hk
    exact (hown.lt k hk).1
theorem info_world : (Try.prog.info? 50).map (fun i => (i.zero, i.size, i.bytes)) = some (some (.agg #[.pointer none, .pointer none]), 2, 16) := by kernel_rfl
theorem WList.nil (w : World) : WList w w (.slice none 0 0) [] := ⟨World.ownsRow_nil _ _ _ _, by simp, by simp, by simp, Below.refl _ _⟩
end Go.Proofs.Ytmjlcajcobbcgab

namespace Go.Proofs.Ytmjlcajcobbcgab
open Go.RowKit

/-- Which of n things a number speaks of. -/
theorem pick_any (c : Int) (n : Nat) (w : World) (h0 : 0 < n) (hn : n ≤ 4398046511104) (h1 : -9223372036854775808 ≤ c) (h2 : c ≤ 9223372036854775807) :
    Calls Try.prog 22 #[.int .i64 c, .int .i64 n] w fun e w' => (∃ i : Nat, i < n ∧ e = .returned (.int .i64 i)) ∧ w' = w := by
  have rem : ∀ d : Int, 0 ≤ d → ∃ i : Nat, i < n ∧ d.tmod n = i := fun d hd => by
    have a1 := Int.tmod_nonneg (n : Int) hd
    have a2 := Int.tmod_lt_of_pos d (show (0 : Int) < n by omega)
    exact ⟨(d.tmod n).toNat, by omega, by omega⟩
  have nz : ((n : Int) == 0) = false := beq_eq_false_iff_ne.2 (by omega)
  by_cases hc : c < 0
  · have hw1 : IntKind.i64.wrap (c + 1) = c + 1 := IntWalk.i64_in _ ⟨by omega, by omega⟩
    have hw2 : IntKind.i64.wrap (-(c + 1)) = -(c + 1) := IntWalk.i64_in _ ⟨by omega, by omega⟩
    obtain ⟨i, hi, hr⟩ := rem (-(c + 1)) (by omega)
    have hw3 : IntKind.i64.wrap ((-(c + 1)).tmod n) = i := by rw [hr]; exact IntWalk.i64_in _ ⟨by omega, by omega⟩
    have q0 : decide (c < 0) = true := by simpa using hc
    clear rem
    go_enter Try.func22, Try.ntmps22
    go_wp2
    go_ret
    exact ⟨⟨i, hi, rfl⟩, rfl⟩
  · obtain ⟨i, hi, hr⟩ := rem c (by omega)
    have hw3 : IntKind.i64.wrap (c.tmod n) = i := by rw [hr]; exact IntWalk.i64_in _ ⟨by omega, by omega⟩
    have q0 : decide (c < 0) = false := by simpa using hc
    clear rem
    go_enter Try.func22, Try.ntmps22
    go_wp2
    go_ret
    exact ⟨⟨i, hi, rfl⟩, rfl⟩
end Go.Proofs.Ytmjlcajcobbcgab

namespace Go.Proofs.Ytmjlcajcobbcgab
open Go.RowKit

set_option maxRecDepth 100000 in
set_option maxHeartbeats 4000000 in
theorem Many_some (hRf : RefineOk) (hWy : WhyOk) (g off len cap : Nat) (w : World) (hg : g < w.heap.size) (hlen : len ≤ 2199023255552)
    (hc : ∀ k, k < len → ∃ (kd W : Int) (s t u : ByteArray), w.cell? ⟨g, off + k * 5, none⟩ = some (.int .i64 kd) ∧ w.cell? ⟨g, off + k * 5 + 1, none⟩ = some (.int .i64 W) ∧ w.cell? ⟨g, off + k * 5 + 2, none⟩ = some (.string s) ∧ w.cell? ⟨g, off + k * 5 + 3, none⟩ = some (.string t) ∧ w.cell? ⟨g, off + k * 5 + 4, none⟩ = some (.string u) ∧ (s.size ≤ maxLen ∧ t.size ≤ maxLen ∧ u.size ≤ maxLen) ∧ -9223372036854775808 ≤ W ∧ W ≤ 9223372036854775807) :
    Calls Try.prog 7 #[.slice (some ⟨g, off, none⟩) len cap] w fun e w' => e = .returned (.bool true) ∧ Below w.heap.size w w' := by
  obtain ⟨i0, hi, hz0, hz1, hz2⟩ := info_parts info_world
  have HST := hid (step_any hRf hWy)
  have HC := hid hc
  have HF := hid fresh_any
  clear hc hRf hWy
  go_enter Try.func7, Try.ntmps7
  go_wp2_with fail
  refine (HF.out _).mono ?_
  rintro e w1 ⟨x, m, rfl, hx, hm, hp, hb1⟩
  have hpA := hp.below ((Below.refl _ w1).alloc (Nat.le_refl _) (.cells #[.pointer (some ⟨x, 0, none⟩), .pointer (some ⟨m, 0, none⟩)] 50))
  have hbA := hb1.alloc hb1.size (.cells #[.pointer (some ⟨x, 0, none⟩), .pointer (some ⟨m, 0, none⟩)] 50)
  have hsA := hbA.size
  have HP := hid (fun v' w' C => WList.push (v' := v') (w' := w') (WList.nil w) hx hm hbA hpA C)
  clear hx hm hp hpA
  go_wp2_with (at_builtin; refine append_far (w0 := w) rfl (.tmp 18) (.tmp 20) 47 rfl w.heap.size 50 i0 (.agg #[.pointer none, .pointer none]) 2 16 Try.underlying47 hi hz0 hz1 hz2 rfl (by decide) _ 0 [] rfl (World.ownsRow_nil _ _ _ _) #[.pointer (some ⟨x, 0, none⟩), .pointer (some ⟨m, 0, none⟩)] rfl (by simp [Value.oneCell']) (by rw [World.size_alloc]; rfl) (by omega) (by decide) hsA hbA ?_; intro v2 w2 hown2 hbel2 hgr2)
  have hW2 : WList w w2 v2 [(x, m)] := HP.out v2 w2 _ hown2 hbel2 hgr2
  have HW2 := hid hW2
  clear hown2 hbel2 hgr2 hb1 hbA hsA HP hW2
  go_wp2_with fail
  go_loopw [3, 6] (fun v i wr => ∃ (k : Nat) (L : List (Nat × Nat)), k ≤ len ∧ i = .int .i64 k ∧ 0 < L.length ∧ L.length ≤ k + 1 ∧ WList w wr v L) (fun _ i _ => len - (intOf i).toNat)
  case atStart => exact ⟨0, [(x, m)], Nat.zero_le _, rfl, by simp, by simp, HW2.out⟩
  case round =>
    clear HW2
    obtain ⟨k, L, hk, rfl, hL0, hLk, hwl⟩ := hrel
    by_cases hlt : k < len
    · have hmax : (k : Int) < 1152921504606846976 := by omega
      obtain ⟨kd, W, s, t, u, c0, c1, c2, c3, c4, hs, hr1, hr2⟩ := HC.out k hlt
      have hbel := hwl.bel
      have d0 := cell_below hbel c0 hg
      have d1 := cell_below hbel c1 hg
      have d2 := cell_below hbel c2 hg
      have d3 := cell_below hbel c3 hg
      have d4 := cell_below hbel c4 hg
      have HS := hid hs
      clear c0 c1 c2 c3 c4 hs
      by_cases k10 : kd = 10
      · subst k10
        have HWL := hid hwl
        have hsz := hbel.size
        clear hwl hbel
        go_wp2_with fail
        have hbO : Below wr.heap.size wr (wr.alloc (.cells #[.int .i64 10, .int .i64 W, .string s, .string t, .string u] 30)) := (Below.refl _ _).alloc (Nat.le_refl _) _
        generalize wr.alloc (.cells #[.int .i64 10, .int .i64 W, .string s, .string t, .string u] 30) = W0 at *
        have hwl0 := HWL.out.below hbO
        refine (HF.out _).mono ?_
        rintro e w3 ⟨x', m', rfl, hx', hm', hp', hb3⟩
        have hpA := hp'.below ((Below.refl _ w3).alloc (Nat.le_refl _) (.cells #[.pointer (some ⟨x', 0, none⟩), .pointer (some ⟨m', 0, none⟩)] 50))
        have hbA := hb3.alloc hb3.size (.cells #[.pointer (some ⟨x', 0, none⟩), .pointer (some ⟨m', 0, none⟩)] 50)
        have HP := hid (fun v' w' C => WList.push (v' := v') (w' := w') hwl0 hx' hm' hbA hpA C)
        have hwl3 := hwl0.below hbA
        have hown3 := hwl3.own
        have hbel3 := hwl3.bel
        have hs3 := hbel3.size
        clear hx' hm' hp' hb3 hbA hpA hwl0 hwl3 hbO d0 d1 d2 d3 d4
        go_wp2_with (at_builtin; refine append_far (w0 := w) rfl (.tmp 45) (.tmp 47) 47 rfl w.heap.size 50 i0 (.agg #[.pointer none, .pointer none]) 2 16 Try.underlying47 hi hz0 hz1 hz2 rfl (by decide) _ L.length (flatW L) rfl hown3 #[.pointer (some ⟨x', 0, none⟩), .pointer (some ⟨m', 0, none⟩)] rfl (by simp [Value.oneCell']) (by rw [World.size_alloc]; rfl) (by omega) (by decide) hs3 hbel3 ?_; intro v4 w4 hown4 hbel4 hgr4)
        have hW4 : WList w w4 v4 (L ++ [(x', m')]) := HP.out v4 w4 _ hown4 hbel4 hgr4
        clear hown4 hbel4 hgr4 hown3 hbel3 hs3 HP
        go_wp2_with fail
        go_roundw
        case rel => (first | exact ⟨k + 1, L ++ [(x', m')], by omega, by go_num, by simp, by simp; omega, hW4⟩ | ((repeat apply Exists.intro); refine ⟨?_, rfl⟩; exact ⟨k + 1, L ++ [(x', m')], by omega, by go_num, by simp, by simp; omega, hW4⟩))
        case measure => simp [intOf]; omega
      · have b10 : (kd == 10) = false := beq_eq_false_iff_ne.2 k10
        obtain ⟨gl, cl, rfl, hcl, hgl, hcells⟩ := hwl.cells hL0
        have HCE := hid hcells
        have HWL := hid hwl
        have HPK := hid (fun wx => pick_any W L.length wx hL0 (by omega) hr1 hr2)
        clear hwl hcells hbel k10
        go_wp2_with fail
        have hbO : Below wr.heap.size wr (wr.alloc (.cells #[.int .i64 kd, .int .i64 W, .string s, .string t, .string u] 30)) := (Below.refl _ _).alloc (Nat.le_refl _) _
        have hO := heap_alloc_new wr (.cells #[.int .i64 kd, .int .i64 W, .string s, .string t, .string u] 30)
        generalize wr.alloc (.cells #[.int .i64 kd, .int .i64 W, .string s, .string t, .string u] 30) = W0 at *
        refine (HPK.out _).mono ?_
        rintro e w3 ⟨⟨i, hiL, rfl⟩, rfl⟩
        obtain ⟨q0, q1⟩ := HCE.out i hiL
        have r0 := cell_below hbO q0 hgl
        have r1 := cell_below hbO q1 hgl
        have hwl0 := HWL.out.below hbO
        have hmem : L[i] ∈ L := List.getElem_mem hiL
        generalize hpe : L[i] = p at *
        obtain ⟨px, pm⟩ := p
        have HW0 := hid hwl0
        have HME := hid hmem
        have hgl0 : gl < w3.heap.size := Nat.lt_of_lt_of_le hgl hbO.size
        have o0 := block_cell (j := 0) hO
        have o1 := block_cell (j := 1) hO
        have o2 := block_cell (j := 2) hO
        have o3 := block_cell (j := 3) hO
        have o4 := block_cell (j := 4) hO
        simp only [List.getElem?_toArray, List.getElem?_cons_zero, List.getElem?_cons_succ] at o0 o1 o2 o3 o4
        simp only at r0 r1
        have hOl := lt_of_block hO
        clear hwl0 hmem hbO d0 d1 d2 d3 d4 q0 q1 HCE HPK hO hpe
        go_wp2_with fail
        have hbX : Below w3.heap.size w3 (w3.alloc (.cells #[.pointer (some ⟨px, 0, none⟩), .pointer (some ⟨pm, 0, none⟩)] 50)) := (Below.refl _ _).alloc (Nat.le_refl _) _
        generalize w3.alloc (.cells #[.pointer (some ⟨px, 0, none⟩), .pointer (some ⟨pm, 0, none⟩)] 50) = W4 at *
        have hwl4 := HW0.out.below hbX
        obtain ⟨A, hA⟩ := hwl4.pr _ HME.out
        refine (HST.out kd px pm A W s t u _ HS.out hA).mono ?_
        rintro e w5 ⟨rfl, ⟨A2, hp2⟩, hf⟩
        have hW5 := hwl4.step HME.out hp2 hf
        clear hp2 hf hbX hA hwl4 o0 o1 o2 o3 o4 r0 r1 hOl hgl0 hgl
        go_wp2_with fail
        go_roundw
        case rel => (first | exact ⟨k + 1, L, by omega, by go_num, hL0, by omega, hW5⟩ | ((repeat apply Exists.intro); refine ⟨?_, rfl⟩; exact ⟨k + 1, L, by omega, by go_num, hL0, by omega, hW5⟩))
        case measure => simp [intOf]; omega
    · have hd : decide ((k : Int) < (len : Int)) = false := by simp; omega
      go_wp2_with fail
      go_ret
      exact ⟨rfl, hwl.bel⟩

set_option maxRecDepth 100000 in
set_option maxHeartbeats 1000000 in
theorem Many_zero (_hRf : RefineOk) (_hWy : WhyOk) (ao : Option Addr) (cap : Nat) (w : World) :
    Calls Try.prog 7 #[.slice ao 0 cap] w fun e w' => e = .returned (.bool true) ∧ Below w.heap.size w w' := by
  obtain ⟨i0, hi, hz0, hz1, hz2⟩ := info_parts info_world
  have HF := hid fresh_any
  go_enter Try.func7, Try.ntmps7
  go_wp2_with fail
  refine (HF.out _).mono ?_
  rintro e w1 ⟨x, m, rfl, hx, hm, hp, hb1⟩
  have hbA := hb1.alloc hb1.size (.cells #[.pointer (some ⟨x, 0, none⟩), .pointer (some ⟨m, 0, none⟩)] 50)
  have hsA := hbA.size
  clear hx hm hp
  go_wp2_with (at_builtin; refine append_far (w0 := w) rfl (.tmp 18) (.tmp 20) 47 rfl w.heap.size 50 i0 (.agg #[.pointer none, .pointer none]) 2 16 Try.underlying47 hi hz0 hz1 hz2 rfl (by decide) _ 0 [] rfl (World.ownsRow_nil _ _ _ _) #[.pointer (some ⟨x, 0, none⟩), .pointer (some ⟨m, 0, none⟩)] rfl (by simp [Value.oneCell']) (by rw [World.size_alloc]; rfl) (by omega) (by decide) hsA hbA ?_; intro v2 w2 hown2 hbel2 hgr2)
  clear hown2 hgr2
  go_wp2_with fail
  refine wp_loop_rounds 1 ?_
  rw [rounds_succ]
  go_wp2_with fail
  go_ret
  exact ⟨rfl, hbel2⟩
end Go.Proofs.Ytmjlcajcobbcgab
