import Derived.Test.YtljafkdaljkanaaPure
namespace Go.Proofs.Ytljafkdaljkanaa.Al

/-- A program's text, statement by statement: the statements so far; the place of the first byte that cannot stand there. -/
def parse (l : List UInt8) : Nat → Nat → List St → List St × Nat × Bool
  | 0, i, A => (A, i, true)
  | n + 1, i, A =>
    if i < l.length then
      if kindOf (l.drop i) < 4 then parse l n (i + shpLen (kindOf (l.drop i))) (withP A (mkSt (kindOf (l.drop i)) (l.drop i)))
      else ([], i + fur (l.drop i) 4, false)
    else (A, i, true)

theorem parse_end (l : List UInt8) (n i : Nat) (A : List St) (h : ¬ i < l.length) : parse l n i A = (A, i, true) := by
  cases n with
  | zero => rfl
  | succ n => simp [parse, h]
theorem parse_good (l : List UInt8) (n i : Nat) (A : List St) (h : i < l.length) (hk : kindOf (l.drop i) < 4) :
    parse l (n + 1) i A = parse l n (i + shpLen (kindOf (l.drop i))) (withP A (mkSt (kindOf (l.drop i)) (l.drop i))) := by simp [parse, h, hk]
theorem parse_bad (l : List UInt8) (n i : Nat) (A : List St) (h : i < l.length) (hk : ¬ kindOf (l.drop i) < 4) :
    parse l (n + 1) i A = ([], i + fur (l.drop i) 4, false) := by simp [parse, h, hk]

/-- Load: the error, the place, the statements. -/
def loadP (l : List UInt8) : Nat × Nat × List St :=
  if 200 < l.length then (1, 0, []) else
    if (parse l l.length 0 []).2.2 = false then (2, (parse l l.length 0 []).2.1, []) else
      if 24 < (parse l l.length 0 []).1.length then (3, 0, []) else (0, 0, (parse l l.length 0 []).1)

/-- A text of one statement: the error, the place. -/
def oneP (l : List UInt8) : Nat × Nat :=
  if 200 < l.length then (1, 0) else if (refStmt l 0).2 = false ∨ (refStmt l 0).1 < l.length then (2, (refStmt l 0).1) else (0, 0)

theorem shpLen_ge (k : Nat) : 4 ≤ shpLen k ∧ shpLen k ≤ 6 := by unfold shpLen; split; omega; split <;> omega
theorem withP_len (A : List St) (s : St) : (withP A s).length ≤ A.length + 1 := by
  have := len_withT (A.map txt) (txt s)
  rw [← withP_txt] at this
  simpa using this

/-- What stands at a place where a statement can be read. -/
theorem stmt_yes {l : List UInt8} {i : Nat} (hk : kindOf (l.drop i) < 4) :
    refStmt l i = (i + shpLen (kindOf (l.drop i)), true) ∧ i + shpLen (kindOf (l.drop i)) ≤ l.length ∧ Wf (mkSt (kindOf (l.drop i)) (l.drop i)) ∧
      txt (mkSt (kindOf (l.drop i)) (l.drop i)) = (l.drop i).take (shpLen (kindOf (l.drop i))) := by
  have h := mk_ok (l.drop i) hk
  have := shpLen_ge (kindOf (l.drop i))
  refine ⟨by rw [read_same, if_pos hk], ?_, h.1, h.2.1⟩
  have h3 := h.2.2.1
  rw [List.length_drop] at h3
  omega
theorem stmt_no {l : List UInt8} {i : Nat} (hk : ¬ kindOf (l.drop i) < 4) : refStmt l i = (i + fur (l.drop i) 4, false) := by rw [read_same, if_neg hk]
theorem fur_le (u : List UInt8) : ∀ k, fur u k ≤ 6
  | 0 => by simp [fur]
  | k + 1 => by
    have h1 := fur_le u k
    have h2 := fitN_le_left (shp k) u
    have h3 := shpLen_ge k
    rw [shp_length] at h2
    simp only [fur]; split <;> omega
theorem refStmt_le (l : List UInt8) (i : Nat) : (refStmt l i).1 ≤ i + 6 := by
  rw [read_same]
  have := shpLen_ge (kindOf (l.drop i))
  have := fur_le (l.drop i) 4
  split <;> simp <;> omega

/-- One statement: its text is the whole text. -/
theorem one_yes {l : List UInt8} (h : (oneP l).1 = 0) : kindOf l < 4 ∧ Wf (mkSt (kindOf l) l) ∧ txt (mkSt (kindOf l) l) = l ∧ l.length ≤ 200 := by
  unfold oneP at h
  split at h
  · simp at h
  · split at h
    · simp at h
    · rename_i h1 h2
      have hk : kindOf l < 4 := by
        rcases Nat.lt_or_ge (kindOf l) 4 with h | h
        · exact h
        · exact absurd (Or.inl (by rw [read_same, if_neg (by simp; omega)])) h2
      have := stmt_yes (l := l) (i := 0) (by simpa using hk)
      simp only [List.drop_zero, Nat.zero_add] at this
      refine ⟨hk, this.2.2.1, ?_, by omega⟩
      rw [this.2.2.2]
      apply List.take_of_length_le
      have h3 := this.1
      rw [h3] at h2
      simp at h2
      omega
theorem one_zero {l : List UInt8} (h : (oneP l).1 = 0) : oneP l = (0, 0) := by
  unfold oneP at h ⊢
  by_cases a : 200 < l.length
  · rw [if_pos a] at h; simp at h
  · rw [if_neg a] at h ⊢
    by_cases b : (refStmt l 0).2 = false ∨ (refStmt l 0).1 < l.length
    · rw [if_pos b] at h; simp at h
    · rw [if_neg b]
end Go.Proofs.Ytljafkdaljkanaa.Al
