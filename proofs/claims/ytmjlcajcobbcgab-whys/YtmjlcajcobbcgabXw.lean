import Derived.Test.YtmjlcajcobbcgabXa
import Derived.Test.YtmjlcajcobbcgabXu
import Derived.Test.YtmjlcajcobbcgabXk
namespace Go.Proofs.Ytmjlcajcobbcgab.Al

/-! Steps of a reason: a statement, a site; for a load also a store and a site. -/
abbrev Sp := St × UInt8 × St × UInt8
abbrev Fc := UInt8 × UInt8
def fct (s : Sp) : Fc := (s.1.2.1, s.2.1)
def txtS (s : Sp) : List UInt8 := s.1.2.1 :: s.2.1 :: 60 :: (txt s.1 ++ (if s.1.1 = 2 then txt s.2.2.1 ++ [s.2.2.2] else []))
/-- The facts that a step goes by. -/
def needs (s : Sp) : List Fc := if s.1.1 = 1 then [(s.1.2.2.1, s.2.1)] else if s.1.1 = 2 then [(s.2.2.1.2.1, s.2.2.2), (s.1.2.2.1, s.2.2.2), (s.2.2.1.2.2.1, s.2.1)] else []
/-- A step by a statement of the program. -/
def OkSp (A : List St) (s : Sp) : Prop := s.1 ∈ A ∧ oB s.2.1.toNat = true ∧
  ((s.1.1 = 0 ∧ s.1.2.2.2.1 = s.2.1) ∨ s.1.1 = 1 ∨ (s.1.1 = 2 ∧ s.2.2.1 ∈ A ∧ s.2.2.1.1 = 3 ∧ s.2.2.1.2.2.2.2 = s.1.2.2.2.2 ∧ oB s.2.2.2.toNat = true))
/-- Each step goes by facts of the steps ahead; no fact comes twice. -/
def Goes2 (A : List St) (L : List Sp) : Prop := (∀ L1 s L2, L = L1 ++ s :: L2 → OkSp A s ∧ ∀ n ∈ needs s, n ∈ L1.map fct) ∧ (L.map fct).Nodup
theorem goes2_nil (A : List St) : Goes2 A [] := ⟨fun L1 s L2 h => by simp at h, by simp⟩
theorem goes2_snoc {A : List St} {L : List Sp} {s : Sp} (h : Goes2 A L) (h1 : OkSp A s) (h2 : ∀ n ∈ needs s, n ∈ L.map fct) (h3 : fct s ∉ L.map fct) : Goes2 A (L ++ [s]) := by
  refine ⟨fun L1 t L2 e => ?_, ?_⟩
  · rcases List.eq_nil_or_concat L2 with rfl | ⟨L3, u, rfl⟩
    · have := List.append_inj' e rfl
      obtain ⟨e1, e2⟩ := this
      simp only [List.cons.injEq, and_true] at e2
      subst e1 e2
      exact ⟨h1, h2⟩
    · rw [List.concat_eq_append, ← List.cons_append, ← List.append_assoc] at e
      have := List.append_inj' e rfl
      exact h.1 L1 t L3 this.1
  · rw [List.map_append, List.nodup_append]
    refine ⟨h.2, by simp, ?_⟩
    intro a ha b hb e
    simp only [List.map_cons, List.map_nil, List.mem_singleton] at hb
    subst hb e
    exact h3 ha

/-- What the program keeps, from the back. -/
def keepStep (s : Sp) (a : List Sp × List Fc) : List Sp × List Fc := if fct s ∈ a.2 then (s :: a.1, a.2 ++ needs s) else a
def keepP (L : List Sp) (f0 : Fc) : List Sp × List Fc := L.foldr keepStep ([], [f0])
theorem keepP_cons (s : Sp) (L : List Sp) (f0 : Fc) : keepP (s :: L) f0 = keepStep s (keepP L f0) := rfl
theorem keep_sub (f0 : Fc) : ∀ L : List Sp, (keepP L f0).1.Sublist L
  | [] => List.Sublist.refl _
  | s :: L => by
    have ih := keep_sub f0 L
    rw [keepP_cons, keepStep]
    split
    · exact ih.cons_cons s
    · exact ih.cons s
theorem keep_last (f0 : Fc) : ∀ L : List Sp, (f0 ∈ L.map fct → ∃ M s, (keepP L f0).1 = M ++ [s] ∧ fct s = f0) ∧ (f0 ∉ L.map fct → keepP L f0 = ([], [f0]))
  | [] => ⟨fun h => by simp at h, fun _ => rfl⟩
  | s :: L => by
    obtain ⟨i1, i2⟩ := keep_last f0 L
    rw [keepP_cons, keepStep]
    by_cases hm : f0 ∈ L.map fct
    · refine ⟨fun _ => ?_, fun h => absurd (by simp only [List.map_cons, List.mem_cons]; exact .inr hm) h⟩
      obtain ⟨M, t, h1, h2⟩ := i1 hm
      split
      · exact ⟨s :: M, t, by simp only [h1, List.cons_append], h2⟩
      · exact ⟨M, t, h1, h2⟩
    · rw [i2 hm]
      by_cases e : fct s = f0
      · refine ⟨fun _ => ⟨[], s, by simp [e], e⟩, fun h => absurd (by simp [e]) h⟩
      · refine ⟨fun h => ?_, fun _ => by simp [e]⟩
        simp only [List.map_cons, List.mem_cons] at h
        rcases h with h | h
        · exact absurd h.symm e
        · exact absurd h hm
theorem keep_needs {A : List St} (f0 : Fc) : ∀ (L L0 : List Sp), Goes2 A (L0 ++ L) → ∀ M1 s M2, (keepP L f0).1 = M1 ++ s :: M2 → ∀ n ∈ needs s, n ∈ M1.map fct ∨ (n ∈ (keepP L f0).2 ∧ n ∈ L0.map fct)
  | [], _, _ => fun M1 s M2 h => by simp [keepP] at h
  | s :: L, L0, hg => by
    have ih := keep_needs f0 L (L0 ++ [s]) (by rw [List.append_assoc]; exact hg)
    have hs := (hg.1 L0 s L rfl).2
    rw [keepP_cons, keepStep]
    generalize keepP L f0 = K at *
    obtain ⟨M, ns⟩ := K
    simp only at ih ⊢
    by_cases hk : fct s ∈ ns
    · rw [if_pos hk]
      intro M1 t M2 e n hn
      simp only at e ⊢
      cases M1 with
      | nil =>
        simp only [List.nil_append, List.cons.injEq] at e
        obtain ⟨rfl, _⟩ := e
        exact .inr ⟨by simp [hn], hs n hn⟩
      | cons a M1 =>
        simp only [List.cons_append, List.cons.injEq] at e
        obtain ⟨rfl, e⟩ := e
        rcases ih M1 t M2 e n hn with h | ⟨h1, h2⟩
        · exact .inl (by simp only [List.map_cons, List.mem_cons]; exact .inr h)
        · simp only [List.map_append, List.map_cons, List.map_nil, List.mem_append, List.mem_singleton] at h2
          rcases h2 with h2 | h2
          · exact .inr ⟨by simp [h1], h2⟩
          · exact .inl (by simp [h2])
    · rw [if_neg hk]
      intro M1 t M2 e n hn
      simp only at e ⊢
      rcases ih M1 t M2 e n hn with h | ⟨h1, h2⟩
      · exact .inl h
      · simp only [List.map_append, List.map_cons, List.map_nil, List.mem_append, List.mem_singleton] at h2
        rcases h2 with h2 | h2
        · exact .inr ⟨h1, h2⟩
        · subst h2; exact absurd h1 hk
/-- What is kept stands by itself, and ends with the fact. -/
theorem keep_ok {A : List St} {L : List Sp} {f0 : Fc} (hg : Goes2 A L) (hm : f0 ∈ L.map fct) : Goes2 A (keepP L f0).1 ∧ ∃ M s, (keepP L f0).1 = M ++ [s] ∧ fct s = f0 := by
  refine ⟨⟨fun M1 s M2 e => ⟨?_, fun n hn => ?_⟩, ?_⟩, (keep_last f0 L).1 hm⟩
  · have hs : s ∈ L := (keep_sub f0 L).subset (by rw [e]; simp)
    obtain ⟨a, b, rfl⟩ := List.append_of_mem hs
    exact (hg.1 a s b rfl).1
  · rcases keep_needs f0 L [] hg M1 s M2 e n hn with h | ⟨_, h⟩
    · exact h
    · simp at h
  · exact List.Nodup.sublist ((keep_sub f0 L).map fct) hg.2

/-- The table says just these facts. -/
def Tells (R : Rw) (ns : List Fc) : Prop := OkR R ∧ ∀ c d : UInt8, vB c.toNat = true → oB d.toNat = true → (tbOf R (vi c) (si d) = true ↔ (c, d) ∈ ns)
theorem vb_bd {c : UInt8} (h : vB c.toNat = true) : vi c < 12 ∧ 97 ≤ c.toNat := by
  simp [vB] at h; unfold vi; omega
theorem ob_bd {c : UInt8} (h : oB c.toNat = true) : si c < 12 ∧ 65 ≤ c.toNat ∧ c.toNat ≤ 76 := by
  simp [oB] at h; unfold si; omega
theorem vi_inj {c d : UInt8} (hc : vB c.toNat = true) (hd : vB d.toNat = true) (h : vi c = vi d) : c = d := by
  have := vb_bd hc; have := vb_bd hd; unfold vi at *
  exact UInt8.toNat_inj.1 (by omega)
theorem si_inj {c d : UInt8} (hc : oB c.toNat = true) (hd : oB d.toNat = true) (h : si c = si d) : c = d := by
  have := ob_bd hc; have := ob_bd hd; unfold si at *
  exact UInt8.toNat_inj.1 (by omega)
theorem tells_zero : Tells zeroR [] := ⟨(goR_zero [] []).1, fun c d _ _ => by simp [tbOf, zeroR]⟩
theorem tb_only {R : Rw} {c d : UInt8} (hc : vB c.toNat = true) (hd : oB d.toNat = true) (v o : Nat) : tbOf (plusR R c.toNat (onlyR d.toNat)) v o = (tbOf R v o || (v == vi c && decide (o = si d))) := by
  have h1 := vb_bd hc
  have h2 := ob_bd hd
  rw [tb_plus h1.1 h1.2, only_bit h2.2]; rfl
theorem tells_plus {R : Rw} {ns : List Fc} {c d : UInt8} (h : Tells R ns) (hc : vB c.toNat = true) (hd : oB d.toNat = true) : Tells (plusR R c.toNat (onlyR d.toNat)) (ns ++ [(c, d)]) := by
  refine ⟨plusR_ok h.1 _ (onlyR_ok _), fun a b ha hb => ?_⟩
  rw [tb_only hc hd, Bool.or_eq_true, h.2 a b ha hb, List.mem_append, List.mem_singleton, Bool.and_eq_true, beq_iff_eq, decide_eq_true_eq, Prod.mk.injEq]
  constructor
  · rintro (h1 | ⟨h1, h2⟩)
    · exact .inl h1
    · exact .inr ⟨vi_inj ha hc h1, si_inj hb hd h2⟩
  · rintro (h1 | ⟨rfl, rfl⟩)
    · exact .inl h1
    · exact .inr ⟨rfl, rfl⟩
theorem cnt_plus {R : Rw} {c d : UInt8} (hc : vB c.toNat = true) (hd : oB d.toNat = true) (h : tbOf R (vi c) (si d) = false) : cnt (tbOf R) < cnt (tbOf (plusR R c.toNat (onlyR d.toNat))) := by
  refine cnt_gain (fun v o _ h1 => ?_) ⟨vi c, si d, (vb_bd hc).1, (ob_bd hd).1, ?_, h⟩
  · rw [tb_only hc hd, h1]; rfl
  · rw [tb_only hc hd]; simp

/-- Is the fact in the table? -/
def hasR (R : Rw) (c d : Nat) : Bool := rowAt R c &&& onlyR d != 0
theorem and_two {r k : Nat} : (r &&& 2 ^ k != 0) = r.testBit k := by
  rw [Bool.eq_iff_iff, bne_iff_ne]
  constructor
  · intro h
    obtain ⟨o, ho⟩ := Nat.exists_testBit_of_ne_zero h
    rw [Nat.testBit_and, Nat.testBit_two_pow, Bool.and_eq_true, decide_eq_true_eq] at ho
    rw [ho.2]; exact ho.1
  · intro h e
    have := congrArg (fun n => n.testBit k) e
    simp [Nat.testBit_and, h] at this
theorem has_tb {R : Rw} {c d : UInt8} (hc : vB c.toNat = true) (hd : oB d.toNat = true) : hasR R c.toNat d.toNat = tbOf R (vi c) (si d) := by
  have h1 := vb_bd hc
  have h2 := ob_bd hd
  unfold hasR
  rw [rowAt_vi h1.1 h1.2, onlyR, if_pos h2.2, and_two]
  simp [tbOf, h1.1, si]
theorem has_tells {R : Rw} {ns : List Fc} {c d : UInt8} (h : Tells R ns) (hc : vB c.toNat = true) (hd : oB d.toNat = true) : hasR R c.toNat d.toNat = true ↔ (c, d) ∈ ns := by
  rw [has_tb hc hd]; exact h.2 c d hc hd
end Go.Proofs.Ytmjlcajcobbcgab.Al

namespace Go.Proofs.Ytmjlcajcobbcgab.Al

/-! What the program looks for, and what it means that it finds none. -/
def LoadHit (A : List St) (R : Rw) (ld : St) (o : UInt8) (st : St) (p : UInt8) : Prop := st ∈ A ∧ st.1 = 3 ∧ st.2.2.2.2 = ld.2.2.2.2 ∧ hasR R st.2.2.1.toNat o.toNat = true ∧ oB p.toNat = true ∧ hasR R st.2.1.toNat p.toNat = true ∧ hasR R ld.2.2.1.toNat p.toNat = true
def StandsR (A : List St) (R : Rw) (s : Sp) : Prop := (s.1.1 = 0 ∧ s.1.2.2.2.1 = s.2.1) ∨ (s.1.1 = 1 ∧ hasR R s.1.2.2.1.toNat s.2.1.toNat = true) ∨ (s.1.1 = 2 ∧ LoadHit A R s.1 s.2.1 s.2.2.1 s.2.2.2)
def NoneR (A : List St) (R : Rw) (st : St) (o : UInt8) : Prop := (st.1 = 0 → st.2.2.2.1 ≠ o) ∧ (st.1 = 1 → hasR R st.2.2.1.toNat o.toNat = false) ∧ (st.1 = 2 → ∀ s2 p, ¬ LoadHit A R st o s2 p)
theorem wf_y {s : St} (h : Wf s) (hk : s.1 ≠ 0) : vB s.2.2.1.toNat = true := by
  rcases h.2 with ⟨h1, _⟩ | ⟨_, h1, _⟩ | ⟨_, h1, _⟩
  · exact absurd h1 hk
  · exact h1
  · exact h1
theorem okSp_of {A : List St} {R : Rw} {s : Sp} (hm : s.1 ∈ A) (ho : oB s.2.1.toNat = true) (h : StandsR A R s) : OkSp A s := by
  refine ⟨hm, ho, ?_⟩
  rcases h with h | ⟨h, _⟩ | ⟨h, h1, h2, h3, _, h5, _⟩
  · exact .inl h
  · exact .inr (.inl h)
  · exact .inr (.inr ⟨h, h1, h2, h3, h5⟩)
theorem needs_of {A : List St} (hA : ∀ a ∈ A, Wf a) {R : Rw} {ns : List Fc} (hT : Tells R ns) {s : Sp} (hm : s.1 ∈ A) (ho : oB s.2.1.toNat = true) (h : StandsR A R s) : ∀ n ∈ needs s, n ∈ ns := by
  intro n hn
  have hw := hA _ hm
  rcases h with ⟨h, _⟩ | ⟨h, h1⟩ | ⟨h, h1, h2, h3, h4, h5, h6, h7⟩
  · simp [needs, h] at hn
  · simp only [needs, h, if_pos, List.mem_singleton] at hn
    subst hn
    exact (has_tells hT (wf_y hw (by omega)) ho).1 h1
  · have hw2 := hA _ h1
    rw [needs, if_neg (by omega), if_pos h] at hn
    simp only [List.mem_cons, List.not_mem_nil, or_false] at hn
    rcases hn with rfl | rfl | rfl
    · exact (has_tells hT hw2.1 h5).1 h6
    · exact (has_tells hT (wf_y hw (by omega)) h5).1 h7
    · exact (has_tells hT (wf_y hw2 (by omega)) ho).1 h4
def stB (o : Nat) : UInt8 := UInt8.ofNat (65 + o)
theorem stB_ok {o : Nat} (h : o < 12) : oB (stB o).toNat = true ∧ si (stB o) = o := by
  have e : (stB o).toNat = 65 + o := by unfold stB; simp; omega
  refine ⟨by simp [oB, e]; omega, by unfold si; omega⟩
theorem told_all {c : UInt8} (h : fB c.toNat = true) : told allF c = true := by
  simp [fB] at h
  have : c = 48 ∨ c = 49 ∨ c = 50 ∨ c = 51 ∨ c = 52 ∨ c = 53 := by
    rcases (show c.toNat = 48 ∨ c.toNat = 49 ∨ c.toNat = 50 ∨ c.toNat = 51 ∨ c.toNat = 52 ∨ c.toNat = 53 by omega) with e | e | e | e | e | e
    · exact .inl (u8_of e (by decide))
    · exact .inr (.inl (u8_of e (by decide)))
    · exact .inr (.inr (.inl (u8_of e (by decide))))
    · exact .inr (.inr (.inr (.inl (u8_of e (by decide)))))
    · exact .inr (.inr (.inr (.inr (.inl (u8_of e (by decide))))))
    · exact .inr (.inr (.inr (.inr (.inr (u8_of e (by decide))))))
  rcases this with rfl | rfl | rfl | rfl | rfl | rfl <;> decide
theorem obeys_of_none {A : List St} (hA : ∀ a ∈ A, Wf a) {R : Rw} (h : ∀ st ∈ A, ∀ o : UInt8, oB o.toNat = true → hasR R st.2.1.toNat o.toNat = false → NoneR A R st o) : Obeys A allF (tbOf R) := by
  rw [obeys_iff_asks hA]
  intro s hs o ho ha
  obtain ⟨h1, h2⟩ := stB_ok ho
  have hw := hA s hs
  cases e : tbOf R (vi s.2.1) o with
  | true => rfl
  | false =>
    have hn := h s hs (stB o) h1 (by rw [has_tb hw.1 h1, h2]; exact e)
    rcases ha with ⟨k0, k1⟩ | ⟨k0, k1⟩ | ⟨k0, p, hp, k1, k2, k3, k4⟩
    · refine absurd ?_ (hn.1 k0)
      have hob : oB s.2.2.2.1.toNat = true := by
        rcases hw.2 with ⟨_, _, q, _⟩ | ⟨q, _⟩ | ⟨q, _⟩
        · exact q
        · omega
        · omega
      exact si_inj hob h1 (by rw [h2]; exact k1.symm)
    · have := hn.2.1 k0
      rw [has_tb (wf_y hw (by omega)) h1, h2, k1] at this
      cases this
    · have hwp := hA p hp
      have hfb : fB s.2.2.2.2.toNat = true := by
        rcases hw.2 with ⟨q, _⟩ | ⟨q, _⟩ | ⟨_, _, _, q⟩
        · omega
        · omega
        · exact q
      rcases k3 with k3 | ⟨q, hq, q1, q2⟩
      · rw [told_all hfb] at k3; cases k3
      · obtain ⟨j1, j2⟩ := stB_ok hq
        refine absurd ⟨hp, k1, k2, ?_, j1, ?_, ?_⟩ (hn.2.2 k0 p (stB q))
        · rw [has_tb (wf_y hwp (by omega)) h1, h2]; exact k4
        · rw [has_tb hwp.1 j1, j2]; exact q1
        · rw [has_tb (wf_y hw (by omega)) j1, j2]; exact q2

/-- The table with what a step needs. -/
def needR (R : Rw) (s : Sp) : Rw := if s.1.1 = 1 then plusR R s.1.2.2.1.toNat (onlyR s.2.1.toNat) else if s.1.1 = 2 then plusR (plusR (plusR R s.2.2.1.2.1.toNat (onlyR s.2.2.2.toNat)) s.1.2.2.1.toNat (onlyR s.2.2.2.toNat)) s.2.2.1.2.2.1.toNat (onlyR s.2.1.toNat) else R
theorem tells_need {A : List St} (hA : ∀ a ∈ A, Wf a) {R : Rw} {ns : List Fc} (hT : Tells R ns) {s : Sp} (h : OkSp A s) : Tells (needR R s) (ns ++ needs s) := by
  obtain ⟨hm, ho, hc⟩ := h
  have hw := hA _ hm
  rcases hc with ⟨h, _⟩ | h | ⟨h, h1, h2, h3, h4⟩
  · rw [needR, needs, if_neg (by omega), if_neg (by omega), if_neg (by omega), if_neg (by omega), List.append_nil]; exact hT
  · rw [needR, needs, if_pos h, if_pos h]
    exact tells_plus hT (wf_y hw (by omega)) ho
  · have hw2 := hA _ h1
    rw [needR, if_neg (show ¬ s.1.1 = 1 by omega), if_pos h, needs, if_neg (show ¬ s.1.1 = 1 by omega), if_pos h]
    have := tells_plus (tells_plus (tells_plus hT hw2.1 h4) (wf_y hw (by omega)) h4) (wf_y hw2 (by omega)) ho
    simpa using this
theorem needR_ok {R : Rw} (h : OkR R) (s : Sp) : OkR (needR R s) := by
  unfold needR
  split
  · exact plusR_ok h _ (onlyR_ok _)
  · split
    · exact plusR_ok (plusR_ok (plusR_ok h _ (onlyR_ok _)) _ (onlyR_ok _)) _ (onlyR_ok _)
    · exact h

/-- What holds at the head of each round of allSteps. -/
def KnowsTo (A : List St) (R : Rw) (L : List Sp) : Prop := Goes2 A L ∧ Tells R (L.map fct) ∧ L.length ≤ cnt (tbOf R)
theorem knows_zero (A : List St) : KnowsTo A zeroR [] := ⟨goes2_nil A, tells_zero, Nat.zero_le _⟩
theorem knows_succ {A : List St} (hA : ∀ a ∈ A, Wf a) {R : Rw} {L : List Sp} (h : KnowsTo A R L) {s : Sp} (hm : s.1 ∈ A) (ho : oB s.2.1.toNat = true) (hn : hasR R s.1.2.1.toNat s.2.1.toNat = false) (hs : StandsR A R s) :
    KnowsTo A (plusR R s.1.2.1.toNat (onlyR s.2.1.toNat)) (L ++ [s]) ∧ cnt (tbOf R) < cnt (tbOf (plusR R s.1.2.1.toNat (onlyR s.2.1.toNat))) := by
  have hv := (hA _ hm).1
  have hlt := cnt_plus hv ho (by rw [← has_tb hv ho]; exact hn)
  have hnew : fct s ∉ L.map fct := fun hh => by
    have := (has_tells h.2.1 hv ho).2 hh
    rw [hn] at this; cases this
  refine ⟨⟨goes2_snoc h.1 (okSp_of hm ho hs) (needs_of hA h.2.1 hm ho hs) hnew, ?_, ?_⟩, hlt⟩
  · rw [List.map_append]; exact tells_plus h.2.1 hv ho
  · have := h.2.2; simp only [List.length_append, List.length_cons, List.length_nil]; omega
/-- In the end each fact of the least table has its step. -/
theorem knows_end {A : List St} (hA : ∀ a ∈ A, Wf a) {R : Rw} {L : List Sp} (h : KnowsTo A R L) (hn : ∀ st ∈ A, ∀ o : UInt8, oB o.toNat = true → hasR R st.2.1.toNat o.toNat = false → NoneR A R st o) {c d : UInt8} (hc : vB c.toNat = true) (hd : oB d.toNat = true) (hl : leastP A allF (vi c) (si d) = true) : (c, d) ∈ L.map fct :=
  (h.2.1.2 c d hc hd).1 ((leastP_is (varsOk_of_wf hA) allF).2 _ (obeys_of_none hA hn) _ _ (ob_bd hd).1 hl)
theorem knows_len {A : List St} {R : Rw} {L : List Sp} (h : KnowsTo A R L) : L.length ≤ 144 := Nat.le_trans h.2.2 (cnt_le _)
end Go.Proofs.Ytmjlcajcobbcgab.Al

namespace Go.Proofs.Ytmjlcajcobbcgab
open Go.RowKit

/-! The text of steps is a reason. -/
def catS (M : List Al.Sp) : List UInt8 := (M.map Al.txtS).flatten
def atS (M : List Al.Sp) (k : Nat) : Nat := (catS (M.take k)).length
theorem catS_append (M N : List Al.Sp) : catS (M ++ N) = catS M ++ catS N := by simp [catS]
theorem catS_cons (s : Al.Sp) (M : List Al.Sp) : catS (s :: M) = Al.txtS s ++ catS M := by simp [catS]
theorem drop_at {M : List Al.Sp} {k : Nat} (h : k < M.length) : (catS M).drop (atS M k) = Al.txtS M[k] ++ catS (M.drop (k + 1)) := by
  have h1 : catS M = catS (M.take k) ++ (Al.txtS M[k] ++ catS (M.drop (k + 1))) := by
    rw [← catS_cons, ← List.drop_eq_getElem_cons h, ← catS_append, List.take_append_drop]
  unfold atS
  have h2 : ∀ (a b c : List UInt8), c = a ++ b → c.drop a.length = b := by
    intro a b c e; rw [e, List.drop_left' rfl]
  exact h2 _ _ _ h1
theorem atS_succ {M : List Al.Sp} {k : Nat} (h : k < M.length) : atS M (k + 1) = atS M k + (Al.txtS M[k]).length := by
  unfold atS
  rw [List.take_succ_eq_append_getElem h, catS_append, List.length_append, catS_cons]
  simp [catS]
theorem head_at {M : List Al.Sp} {k : Nat} (h : k < M.length) : (catS M)[atS M k]? = some M[k].1.2.1 ∧ (catS M)[atS M k + 1]? = some M[k].2.1 := by
  have hd := drop_at h
  exact ⟨drop_getR (j := 0) hd rfl, drop_getR (j := 1) hd rfl⟩
theorem btS_at {M : List Al.Sp} {k : Nat} (h : k < M.length) : Al.bt (catS M) (atS M k) = M[k].1.2.1.toNat ∧ Al.bt (catS M) (atS M k + 1) = M[k].2.1.toNat := by
  obtain ⟨h1, h2⟩ := head_at h
  unfold Al.bt
  rw [List.getD_eq_getElem?_getD, List.getD_eq_getElem?_getD, h1, h2]
  exact ⟨rfl, rfl⟩
theorem known_iff {M : List Al.Sp} {k : Nat} (hk : k ≤ M.length) (c d : UInt8) : knownP (catS M) (places (atS M) k) c.toNat d.toNat = true ↔ (c, d) ∈ (M.take k).map Al.fct := by
  unfold knownP places
  rw [List.any_map, List.any_eq_true, List.mem_map]
  constructor
  · rintro ⟨j, hj, h⟩
    have hj := List.mem_range.1 hj
    have hb := btS_at (M := M) (k := j) (by omega)
    unfold Al.bt at hb
    simp only [Function.comp, factAt, hb.1, hb.2, Bool.and_eq_true, beq_iff_eq] at h
    refine ⟨M[j], List.mem_take_iff_getElem.2 ⟨j, by omega, rfl⟩, ?_⟩
    unfold Al.fct
    rw [UInt8.toNat_inj.1 h.1, UInt8.toNat_inj.1 h.2]
  · rintro ⟨s, hs, h⟩
    obtain ⟨j, hj, rfl⟩ := List.mem_take_iff_getElem.1 hs
    refine ⟨j, List.mem_range.2 (by omega), ?_⟩
    have hb := btS_at (M := M) (k := j) (by omega)
    unfold Al.bt at hb
    unfold Al.fct at h
    simp only [Prod.mk.injEq] at h
    simp only [Function.comp, factAt, hb.1, hb.2, Bool.and_eq_true, beq_iff_eq, h.1, h.2, and_self]
theorem split_at {M : List Al.Sp} {k : Nat} (h : k < M.length) : M = M.take k ++ M[k] :: M.drop (k + 1) := by
  rw [← List.drop_eq_getElem_cons h, List.take_append_drop]
theorem stepAt {A : List Al.St} {M : List Al.Sp} (hA : Al.Good A) (hg : Al.Goes2 A M) {k : Nat} (h : k < M.length) : StepAt A (catS M) (places (atS M) k) (atS M k) (atS M (k + 1)) := by
  obtain ⟨hok, hn⟩ := hg.1 _ _ _ (split_at h)
  have hd := drop_at h
  have hs := atS_succ h
  have hkn := fun (n : Al.Fc) (hm : n ∈ Al.needs M[k]) => (known_iff (Nat.le_of_lt h) n.1 n.2).2 (hn n hm)
  generalize M[k] = s at *
  generalize places (atS M) k = F at *
  generalize catS (M.drop (k + 1)) = rest at *
  generalize atS M (k + 1) = j at *
  obtain ⟨b, o, st, p⟩ := s
  obtain ⟨hm, ho, hcase⟩ := hok
  simp only at hm ho hcase
  have hwf := hA.1 _ hm
  rcases wf_cases hwf with ⟨x, q, rfl, h0, h1⟩ | ⟨x, y, rfl, h0, h1⟩ | ⟨x, y, f, rfl, h0, h1, h2⟩ | ⟨x, y, f, rfl, h0, h1, h2⟩
  · rcases hcase with ⟨_, rfl⟩ | hc | ⟨hc, _⟩
    · refine .inl ⟨x, q, rest, hm, ?_, ?_⟩
      · rw [hd]; simp [Al.txtS]
      · rw [hs]; simp [Al.txtS, txt0]
    · exact absurd hc (by simp)
    · exact absurd hc (by simp)
  · refine .inr (.inl ⟨x, y, o, rest, hm, ho, ?_, hkn (y, o) (by simp [Al.needs]), ?_⟩)
    · rw [hd]; simp [Al.txtS]
    · rw [hs]; simp [Al.txtS, txt1]
  · rcases hcase with ⟨hc, _⟩ | hc | ⟨_, hm2, h3, hf, hp⟩
    · exact absurd hc (by simp)
    · exact absurd hc (by simp)
    · have hwp := hA.1 _ hm2
      rcases wf_cases hwp with ⟨_, _, rfl, _, _⟩ | ⟨_, _, rfl, _, _⟩ | ⟨_, _, _, rfl, _, _, _⟩ | ⟨z, u, g, rfl, g0, g1, g2⟩
      · exact absurd h3 (by simp)
      · exact absurd h3 (by simp)
      · exact absurd h3 (by simp)
      · simp only at hf
        subst hf
        refine .inr (.inr ⟨x, y, g, z, u, o, p, rest, hm, hm2, ho, hp, ?_, hkn (z, p) (by simp [Al.needs]), hkn (y, p) (by simp [Al.needs]), hkn (u, o) (by simp [Al.needs]), ?_⟩)
        · rw [hd]; simp [Al.txtS]
        · rw [hs]; simp [Al.txtS, txt2, txt3]
  · rcases hcase with ⟨hc, _⟩ | hc | ⟨hc, _⟩
    · exact absurd hc (by simp)
    · exact absurd hc (by simp)
    · exact absurd hc (by simp)
theorem reason_of {A : List Al.St} {M : List Al.Sp} {s : Al.Sp} (hA : Al.Good A) (hg : Al.Goes2 A (M ++ [s])) : ReasonOf A (catS (M ++ [s])) s.1.2.1.toNat s.2.1.toNat M.length (atS (M ++ [s])) := by
  have hl : (M ++ [s]).length = M.length + 1 := by simp
  have hlast : (M ++ [s])[M.length]? = some s := by simp
  generalize M ++ [s] = N at *
  refine ⟨by simp [atS, catS], by unfold atS; rw [List.take_of_length_le (by omega)], fun k hk => stepAt hA hg (by omega), fun k hk => ?_, ?_⟩
  · obtain ⟨h1, h2⟩ := btS_at (M := N) (k := k) (by omega)
    rw [h1, h2, Bool.eq_false_iff]
    intro h
    have h3 := (known_iff (M := N) (k := k) (by omega) _ _).1 h
    have hnd := hg.2
    rw [split_at (M := N) (k := k) (by omega), List.map_append, List.nodup_append] at hnd
    exact hnd.2.2 _ h3 _ (by simp only [List.map_cons, List.mem_cons]; exact .inl rfl) rfl
  · obtain ⟨h1, h2⟩ := btS_at (M := N) (k := M.length) (by omega)
    rw [h1, h2]
    rw [List.getElem?_eq_getElem (by omega), Option.some.injEq] at hlast
    rw [hlast]
    exact ⟨rfl, rfl⟩
theorem txtS_le (s : Al.Sp) : (Al.txtS s).length ≤ 16 := by
  have h1 := txt_le s.1
  have h2 := txt_le s.2.2.1
  unfold Al.txtS
  split
  · simp only [List.length_cons, List.length_append, List.length_nil]; omega
  · simp only [List.length_cons, List.length_append, List.length_nil]; omega
theorem catS_le : ∀ M : List Al.Sp, (catS M).length ≤ 16 * M.length
  | [] => by simp [catS]
  | s :: M => by
    have := catS_le M
    have := txtS_le s
    rw [catS_cons, List.length_append, List.length_cons]; omega
end Go.Proofs.Ytmjlcajcobbcgab
