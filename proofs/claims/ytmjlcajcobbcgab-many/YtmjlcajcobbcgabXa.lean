import GoSem.Op.String
import Derived.WalkKit
import Derived.WalkSpells
import Derived.WalkLawsBesides
import Derived.Laws.AppendOwn
namespace Go.Proofs.Ytmjlcajcobbcgab.Al

/-! What the texts are: bytes as lists; the document's reader and the program's reader; they come to the same. -/

def vB (c : Nat) : Bool := decide (97 ≤ c) && decide (c ≤ 108)
def oB (c : Nat) : Bool := decide (65 ≤ c) && decide (c ≤ 76)
def fB (c : Nat) : Bool := decide (48 ≤ c) && decide (c ≤ 53)

def bt (l : List UInt8) (i : Nat) : Nat := (l.getD i 0).toNat

def refStmt (l : List UInt8) (i : Nat) : Nat × Bool :=
  if vB (bt l i) = true then
    if bt l (i + 1) = 46 then
      if fB (bt l (i + 2)) = true then
        if bt l (i + 3) = 61 then
          if vB (bt l (i + 4)) = true then
            if bt l (i + 5) = 59 then (i + 6, true) else (i + 5, false)
          else (i + 4, false)
        else (i + 3, false)
      else (i + 2, false)
    else if bt l (i + 1) = 61 then
      if bt l (i + 2) = 64 then
        if oB (bt l (i + 3)) = true then
          if bt l (i + 4) = 59 then (i + 5, true) else (i + 4, false)
        else (i + 3, false)
      else if vB (bt l (i + 2)) = true then
        if bt l (i + 3) = 46 then
          if fB (bt l (i + 4)) = true then
            if bt l (i + 5) = 59 then (i + 6, true) else (i + 5, false)
          else (i + 4, false)
        else if bt l (i + 3) = 59 then (i + 4, true) else (i + 3, false)
      else (i + 2, false)
    else (i + 1, false)
  else (i, false)

def shp (k : Nat) : List UInt8 :=
  if k = 0 then [120, 61, 64, 111, 59] else if k = 1 then [120, 61, 121, 59] else if k = 2 then [120, 61, 121, 46, 102, 59] else [120, 46, 102, 61, 121, 59]

def fitB (m b : Nat) : Bool :=
  if m = 120 ∨ m = 121 then vB b else if m = 111 then oB b else if m = 102 then fB b else b == m

def fitN : List UInt8 → List UInt8 → Nat
  | m :: ms, b :: bs => if fitB m.toNat b.toNat = true then fitN ms bs + 1 else 0
  | _, _ => 0

theorem fitN_le_right : ∀ (ms u : List UInt8), fitN ms u ≤ u.length
  | [], _ => by simp [fitN]
  | _ :: _, [] => by simp [fitN]
  | m :: ms, b :: bs => by
    have := fitN_le_right ms bs
    simp only [fitN]; split <;> simp; omega

theorem fitN_le_left : ∀ (ms u : List UInt8), fitN ms u ≤ ms.length
  | [], _ => by simp [fitN]
  | _ :: _, [] => by simp [fitN]
  | m :: ms, b :: bs => by
    have := fitN_le_left ms bs
    simp only [fitN]; split <;> simp; omega

theorem fitB_zero (m : Nat) (h : m ≠ 0) : fitB m 0 = false := by
  unfold fitB; split
  · decide
  · split
    · decide
    · split
      · decide
      · simp; omega

theorem fitN_cons (m : UInt8) (ms u : List UInt8) (h : m.toNat ≠ 0) : fitN (m :: ms) u = if fitB m.toNat (bt u 0) = true then fitN ms (u.drop 1) + 1 else 0 := by
  cases u with
  | nil => simp [fitN, bt, fitB_zero m.toNat h]
  | cons b bs => simp [fitN, bt]

theorem bt_drop (u : List UInt8) (i j : Nat) : bt (u.drop i) j = bt u (i + j) := by simp [bt]

theorem fitN_nil (u : List UInt8) : fitN [] u = 0 := by simp [fitN]

theorem fit0 (u : List UInt8) : fitN (shp 0) u =
    if vB (bt u 0) = true then if bt u 1 = 61 then if bt u 2 = 64 then if oB (bt u 3) = true then if bt u 4 = 59 then 5 else 4 else 3 else 2 else 1 else 0 := by
  simp only [shp, if_true]
  rw [fitN_cons _ _ _ (by decide), fitN_cons _ _ _ (by decide), fitN_cons _ _ _ (by decide), fitN_cons _ _ _ (by decide), fitN_cons _ _ _ (by decide), fitN_nil]
  simp only [List.drop_drop, bt_drop, fitB]
  simp
  repeat' (first | rfl | split)
theorem fit1 (u : List UInt8) : fitN (shp 1) u =
    if vB (bt u 0) = true then if bt u 1 = 61 then if vB (bt u 2) = true then if bt u 3 = 59 then 4 else 3 else 2 else 1 else 0 := by
  have e : shp 1 = [120, 61, 121, 59] := by decide
  rw [e, fitN_cons _ _ _ (by decide), fitN_cons _ _ _ (by decide), fitN_cons _ _ _ (by decide), fitN_cons _ _ _ (by decide), fitN_nil]
  simp only [List.drop_drop, bt_drop, fitB]
  simp
  repeat' (first | rfl | split)
theorem fit2 (u : List UInt8) : fitN (shp 2) u =
    if vB (bt u 0) = true then if bt u 1 = 61 then if vB (bt u 2) = true then if bt u 3 = 46 then if fB (bt u 4) = true then if bt u 5 = 59 then 6 else 5 else 4 else 3 else 2 else 1 else 0 := by
  have e : shp 2 = [120, 61, 121, 46, 102, 59] := by decide
  rw [e, fitN_cons _ _ _ (by decide), fitN_cons _ _ _ (by decide), fitN_cons _ _ _ (by decide), fitN_cons _ _ _ (by decide), fitN_cons _ _ _ (by decide), fitN_cons _ _ _ (by decide), fitN_nil]
  simp only [List.drop_drop, bt_drop, fitB]
  simp
  repeat' (first | rfl | split)
theorem fit3 (u : List UInt8) : fitN (shp 3) u =
    if vB (bt u 0) = true then if bt u 1 = 46 then if fB (bt u 2) = true then if bt u 3 = 61 then if vB (bt u 4) = true then if bt u 5 = 59 then 6 else 5 else 4 else 3 else 2 else 1 else 0 := by
  have e : shp 3 = [120, 46, 102, 61, 121, 59] := by decide
  rw [e, fitN_cons _ _ _ (by decide), fitN_cons _ _ _ (by decide), fitN_cons _ _ _ (by decide), fitN_cons _ _ _ (by decide), fitN_cons _ _ _ (by decide), fitN_cons _ _ _ (by decide), fitN_nil]
  simp only [List.drop_drop, bt_drop, fitB]
  simp
  repeat' (first | rfl | split)

/-- The furthest of the first k shapes. -/
def fur (u : List UInt8) : Nat → Nat
  | 0 => 0
  | k + 1 => if fur u k < fitN (shp k) u then fitN (shp k) u else fur u k

/-- The program's reader: the kind of the first shape that fits whole, or 4. -/
def kindOf (u : List UInt8) : Nat :=
  if fitN (shp 0) u = 5 then 0 else if fitN (shp 1) u = 4 then 1 else if fitN (shp 2) u = 6 then 2 else if fitN (shp 3) u = 6 then 3 else 4

def shpLen (k : Nat) : Nat := if k = 0 then 5 else if k = 1 then 4 else 6
theorem shp_length (k : Nat) : (shp k).length = shpLen k := by unfold shp shpLen; split; rfl; split; rfl; split <;> rfl

theorem vB_64 : vB 64 = false := by decide
theorem read_same (l : List UInt8) (i : Nat) :
    refStmt l i = if kindOf (l.drop i) < 4 then (i + shpLen (kindOf (l.drop i)), true) else (i + fur (l.drop i) 4, false) := by
  have h := bt_drop l i
  unfold kindOf
  simp only [fur, fit0, fit1, fit2, fit3, h, Nat.add_zero]
  unfold refStmt
  generalize bt l i = b0
  generalize bt l (i + 1) = b1
  generalize bt l (i + 2) = b2
  generalize bt l (i + 3) = b3
  generalize bt l (i + 4) = b4
  generalize bt l (i + 5) = b5
  by_cases c0 : vB b0 = true
  · by_cases c1 : b1 = 46
    · subst c1
      by_cases c2 : fB b2 = true <;> by_cases c3 : b3 = 61 <;> by_cases c4 : vB b4 = true <;> by_cases c5 : b5 = 59 <;> simp [c0, c2, c3, c4, c5, shpLen]
    · by_cases c1' : b1 = 61
      · subst c1'
        by_cases c2 : b2 = 64
        · subst c2
          by_cases c3 : oB b3 = true <;> by_cases c4 : b4 = 59 <;> simp [c0, c3, c4, shpLen, vB_64]
        · by_cases c2' : vB b2 = true
          · by_cases c3 : b3 = 46
            · subst c3
              by_cases c4 : fB b4 = true <;> by_cases c5 : b5 = 59 <;> simp [c0, c2, c2', c4, c5, shpLen]
            · by_cases c3' : b3 = 59 <;> simp [c0, c2, c2', c3, c3', shpLen]
          · simp [c0, c2, c2']
      · simp [c0, c1, c1']
  · simp [c0]

/-! A statement: kind, x, y, o, f. -/
abbrev St := Nat × UInt8 × UInt8 × UInt8 × UInt8
def byteAt (s : St) (m : UInt8) : UInt8 := if m = 120 then s.2.1 else if m = 121 then s.2.2.1 else if m = 111 then s.2.2.2.1 else if m = 102 then s.2.2.2.2 else m
def txt (s : St) : List UInt8 := (shp s.1).map (byteAt s)
def fillStep (m c : UInt8) (s : St) : St :=
  if m = 120 then (s.1, c, s.2.2) else if m = 121 then (s.1, s.2.1, c, s.2.2.2) else if m = 111 then (s.1, s.2.1, s.2.2.1, c, s.2.2.2.2) else if m = 102 then (s.1, s.2.1, s.2.2.1, s.2.2.2.1, c) else s
def fillSt : List UInt8 → List UInt8 → St → St
  | m :: ms, c :: cs, s => fillSt ms cs (fillStep m c s)
  | _, _, s => s
def mkSt (k : Nat) (u : List UInt8) : St := fillSt (shp k) u (k, 0, 0, 0, 0)

def Wf (s : St) : Prop :=
  vB s.2.1.toNat = true ∧ ((s.1 = 0 ∧ s.2.2.1 = 0 ∧ oB s.2.2.2.1.toNat = true ∧ s.2.2.2.2 = 0) ∨ (s.1 = 1 ∧ vB s.2.2.1.toNat = true ∧ s.2.2.2.1 = 0 ∧ s.2.2.2.2 = 0) ∨
    ((s.1 = 2 ∨ s.1 = 3) ∧ vB s.2.2.1.toNat = true ∧ s.2.2.2.1 = 0 ∧ fB s.2.2.2.2.toNat = true))

theorem u8_of {c : UInt8} {n : Nat} (h : c.toNat = n) (hn : n < 256) : c = UInt8.ofNat n := by
  apply UInt8.toNat_inj.1; rw [h]; simp; omega

theorem bt_cons0 (a : UInt8) (u : List UInt8) : bt (a :: u) 0 = a.toNat := by simp [bt]
theorem bt_cons (a : UInt8) (u : List UInt8) (j : Nat) : bt (a :: u) (j + 1) = bt u j := by simp [bt]

theorem ite_eq_lt {p : Prop} [Decidable p] {a b n : Nat} (h : (if p then a else b) = n) (hb : b < n) : p ∧ a = n := by
  split at h
  · exact ⟨‹p›, h⟩
  · omega

theorem mk_ok (u : List UInt8) (h : kindOf u < 4) : Wf (mkSt (kindOf u) u) ∧ txt (mkSt (kindOf u) u) = u.take (shpLen (kindOf u)) ∧ shpLen (kindOf u) ≤ u.length ∧ (mkSt (kindOf u) u).1 = kindOf u := by
  unfold kindOf at *
  split at h
  · rename_i e; rw [if_pos e]
    have hl := fitN_le_right (shp 0) u
    rw [e] at hl
    rw [fit0] at e
    match u, hl with
    | c0 :: c1 :: c2 :: c3 :: c4 :: r, _ =>
      simp only [bt, List.getD_cons_zero, List.getD_cons_succ] at e
      obtain ⟨h0, e⟩ := ite_eq_lt e (by decide)
      obtain ⟨h1, e⟩ := ite_eq_lt e (by decide)
      obtain ⟨h2, e⟩ := ite_eq_lt e (by decide)
      obtain ⟨h3, e⟩ := ite_eq_lt e (by decide)
      obtain ⟨h4, e⟩ := ite_eq_lt e (by decide)
      have g1 : c1 = 61 := u8_of h1 (by decide)
      have g2 : c2 = 64 := u8_of h2 (by decide)
      have g4 : c4 = 59 := u8_of h4 (by decide)
      subst g1 g2 g4
      simp [mkSt, shp, fillSt, fillStep, Wf, txt, byteAt, shpLen, h0, h3]
  · rename_i e0; rw [if_neg e0]
    split at h
    · rename_i e; rw [if_pos e]
      have hl := fitN_le_right (shp 1) u
      rw [e] at hl
      rw [fit1] at e
      match u, hl with
      | c0 :: c1 :: c2 :: c3 :: r, _ =>
        simp only [bt, List.getD_cons_zero, List.getD_cons_succ] at e
        obtain ⟨h0, e⟩ := ite_eq_lt e (by decide)
        obtain ⟨h1, e⟩ := ite_eq_lt e (by decide)
        obtain ⟨h2, e⟩ := ite_eq_lt e (by decide)
        obtain ⟨h3, e⟩ := ite_eq_lt e (by decide)
        have g1 : c1 = 61 := u8_of h1 (by decide)
        have g3 : c3 = 59 := u8_of h3 (by decide)
        subst g1 g3
        simp [mkSt, shp, fillSt, fillStep, Wf, txt, byteAt, shpLen, h0, h2]
    · rename_i e1; rw [if_neg e1]
      split at h
      · rename_i e; rw [if_pos e]
        have hl := fitN_le_right (shp 2) u
        rw [e] at hl
        rw [fit2] at e
        match u, hl with
        | c0 :: c1 :: c2 :: c3 :: c4 :: c5 :: r, _ =>
          simp only [bt, List.getD_cons_zero, List.getD_cons_succ] at e
          obtain ⟨h0, e⟩ := ite_eq_lt e (by decide)
          obtain ⟨h1, e⟩ := ite_eq_lt e (by decide)
          obtain ⟨h2, e⟩ := ite_eq_lt e (by decide)
          obtain ⟨h3, e⟩ := ite_eq_lt e (by decide)
          obtain ⟨h4, e⟩ := ite_eq_lt e (by decide)
          obtain ⟨h5, e⟩ := ite_eq_lt e (by decide)
          have g1 : c1 = 61 := u8_of h1 (by decide)
          have g3 : c3 = 46 := u8_of h3 (by decide)
          have g5 : c5 = 59 := u8_of h5 (by decide)
          subst g1 g3 g5
          simp [mkSt, shp, fillSt, fillStep, Wf, txt, byteAt, shpLen, h0, h2, h4]
      · rename_i e2; rw [if_neg e2]
        split at h
        · rename_i e; rw [if_pos e]
          have hl := fitN_le_right (shp 3) u
          rw [e] at hl
          rw [fit3] at e
          match u, hl with
          | c0 :: c1 :: c2 :: c3 :: c4 :: c5 :: r, _ =>
            simp only [bt, List.getD_cons_zero, List.getD_cons_succ] at e
            obtain ⟨h0, e⟩ := ite_eq_lt e (by decide)
            obtain ⟨h1, e⟩ := ite_eq_lt e (by decide)
            obtain ⟨h2, e⟩ := ite_eq_lt e (by decide)
            obtain ⟨h3, e⟩ := ite_eq_lt e (by decide)
            obtain ⟨h4, e⟩ := ite_eq_lt e (by decide)
            obtain ⟨h5, e⟩ := ite_eq_lt e (by decide)
            have g1 : c1 = 46 := u8_of h1 (by decide)
            have g3 : c3 = 61 := u8_of h3 (by decide)
            have g5 : c5 = 59 := u8_of h5 (by decide)
            subst g1 g3 g5
            simp [mkSt, shp, fillSt, fillStep, Wf, txt, byteAt, shpLen, h0, h2, h4]
        · omega

theorem txt_inj {s t : St} (hs : Wf s) (ht : Wf t) (h : txt s = txt t) : s = t := by
  obtain ⟨k, x, y, o, f⟩ := s
  obtain ⟨k', x', y', o', f'⟩ := t
  simp only [Wf] at hs ht
  rcases hs with ⟨_, ⟨rfl, rfl, _, rfl⟩ | ⟨rfl, _, rfl, rfl⟩ | ⟨rfl | rfl, _, rfl, _⟩⟩ <;>
  rcases ht with ⟨_, ⟨rfl, rfl, _, rfl⟩ | ⟨rfl, _, rfl, rfl⟩ | ⟨rfl | rfl, _, rfl, _⟩⟩ <;>
  simp [txt, shp, byteAt] at h <;> simp_all

theorem txt_len (s : St) (h : Wf s) : 4 ≤ (txt s).length ∧ (txt s).length ≤ 6 := by
  obtain ⟨k, x, y, o, f⟩ := s
  simp only [txt, List.length_map, shp_length, shpLen]
  split
  · omega
  · split <;> omega

/-! The order of texts. -/
abbrev lt (a b : List UInt8) : Bool := Op.bytesLess a b
theorem lt_irrefl : ∀ a, lt a a = false
  | [] => rfl
  | a :: x => by simp [lt, Op.bytesLess]; exact lt_irrefl x
theorem lt_trans : ∀ {a b c}, lt a b = true → lt b c = true → lt a c = true
  | [], _ :: _, [], _, h => by simp [lt, Op.bytesLess] at h
  | [], _ :: _, _ :: _, _, _ => by simp [lt, Op.bytesLess]
  | _, [], _, h, _ => by simp [lt, Op.bytesLess] at h
  | _ :: _, _ :: _, [], _, h => by simp [lt, Op.bytesLess] at h
  | a :: x, b :: y, c :: z, h1, h2 => by
    simp only [lt, Op.bytesLess, Bool.or_eq_true, Bool.and_eq_true, decide_eq_true_eq, beq_iff_eq] at *
    rcases h1 with h1 | ⟨rfl, h1⟩
    · rcases h2 with h2 | ⟨rfl, h2⟩
      · exact .inl (UInt8.lt_trans h1 h2)
      · exact .inl h1
    · rcases h2 with h2 | ⟨rfl, h2⟩
      · exact .inl h2
      · exact .inr ⟨rfl, lt_trans h1 h2⟩
theorem lt_total : ∀ {a b}, a ≠ b → lt a b = false → lt b a = true
  | [], [], h, _ => absurd rfl h
  | [], _ :: _, _, h => by simp [lt, Op.bytesLess] at h
  | _ :: _, [], _, _ => by simp [lt, Op.bytesLess]
  | a :: x, b :: y, hn, h => by
    simp only [lt, Op.bytesLess, Bool.or_eq_false_iff, Bool.and_eq_false_iff, decide_eq_false_iff_not, beq_eq_false_iff_ne, Bool.or_eq_true, Bool.and_eq_true, decide_eq_true_eq, beq_iff_eq] at *
    obtain ⟨h1, h2⟩ := h
    by_cases e : a = b
    · subst e
      exact .inr ⟨rfl, lt_total (fun e => hn (by rw [e])) (by simpa using h2)⟩
    · left
      rcases UInt8.lt_or_lt_of_ne e with h' | h'
      · exact absurd h' h1
      · exact h'
theorem lt_asymm {a b} (h : lt a b = true) : lt b a = false := by
  cases e : lt b a with
  | false => rfl
  | true => have := lt_trans h e; rw [lt_irrefl] at this; exact this.symm

def Sorted (R : List (List UInt8)) : Prop := R.Pairwise (fun a b => lt a b = true)

/-- The document's insertion. -/
def insGo (t : List UInt8) : Bool → List (List UInt8) → List (List UInt8)
  | d, [] => if d = true then [] else [t]
  | d, r :: rs => if d = false ∧ lt t r = true then t :: r :: insGo t true rs else r :: insGo t d rs
def has (R : List (List UInt8)) (t : List UInt8) : Bool := R.any (fun r => r == t)
def refWith (R : List (List UInt8)) (t : List UInt8) : List (List UInt8) := insGo t (has R t) R
/-- The program's. -/
def withT (R : List (List UInt8)) (t : List UInt8) : List (List UInt8) := R.filter (fun r => lt r t) ++ t :: R.filter (fun r => lt t r)

theorem insGo_true (t : List UInt8) : ∀ R, insGo t true R = R
  | [] => rfl
  | r :: rs => by simp [insGo, insGo_true t rs]

theorem filter_gt_nil {t : List UInt8} : ∀ {R : List (List UInt8)}, (∀ r ∈ R, lt t r = true) → R.filter (fun r => lt r t) = [] ∧ R.filter (fun r => lt t r) = R := by
  intro R h
  refine ⟨List.filter_eq_nil_iff.2 fun r hr => by simp [lt_asymm (h r hr)], List.filter_eq_self.2 h⟩

theorem insGo_false (t : List UInt8) : ∀ R, Sorted R → t ∉ R → insGo t false R = withT R t
  | [], _, _ => by simp [insGo, withT]
  | r :: rs, hs, hn => by
    obtain ⟨h1, h2⟩ := List.pairwise_cons.1 hs
    have hne : t ≠ r := fun e => hn (by simp [e])
    by_cases h : lt t r = true
    · have := filter_gt_nil (t := t) (R := rs) (fun q hq => lt_trans h (h1 q hq))
      simp only [insGo, h, and_self, if_true, insGo_true, withT, List.filter_cons, lt_asymm h, this.1, this.2]
      simp
    · have h' : lt t r = false := by simpa using h
      have hr : lt r t = true := lt_total hne h'
      have ih := insGo_false t rs h2 (fun e => hn (by simp [e]))
      simp [insGo, h', ih, withT, hr]

theorem withT_mem (t : List UInt8) : ∀ R, Sorted R → t ∈ R → withT R t = R
  | [], _, h => by simp at h
  | r :: rs, hs, h => by
    obtain ⟨h1, h2⟩ := List.pairwise_cons.1 hs
    rcases List.mem_cons.1 h with rfl | h
    · have := filter_gt_nil (t := t) (R := rs) h1
      simp [withT, lt_irrefl, this.1, this.2]
    · have hr := h1 t h
      have ih := withT_mem t rs h2 h
      simp only [withT] at ih ⊢
      simp [hr, lt_asymm hr, ih]

theorem has_iff (R : List (List UInt8)) (t : List UInt8) : has R t = true ↔ t ∈ R := by simp [has]

theorem refWith_eq (R : List (List UInt8)) (t : List UInt8) (hs : Sorted R) : refWith R t = withT R t := by
  unfold refWith
  cases e : has R t with
  | true => rw [insGo_true, withT_mem t R hs ((has_iff _ _).1 e)]
  | false => exact insGo_false t R hs (fun h => by rw [(has_iff _ _).2 h] at e; cases e)

theorem withT_sorted (R : List (List UInt8)) (t : List UInt8) (hs : Sorted R) : Sorted (withT R t) := by
  unfold withT Sorted
  rw [List.pairwise_append]
  refine ⟨List.Pairwise.filter _ hs, ?_, ?_⟩
  · rw [List.pairwise_cons]
    exact ⟨fun a ha => (List.mem_filter.1 ha).2, List.Pairwise.filter _ hs⟩
  · intro a ha b hb
    have h1 := (List.mem_filter.1 ha).2
    rcases List.mem_cons.1 hb with rfl | hb
    · exact h1
    · exact lt_trans h1 (List.mem_filter.1 hb).2

/-! The program's list of statements. -/
def withP (A : List St) (s : St) : List St := A.filter (fun a => lt (txt a) (txt s)) ++ s :: A.filter (fun a => lt (txt s) (txt a))
def dropP (A : List St) (s : St) : List St := A.filter (fun a => !(a == s))
def Good (A : List St) : Prop := (∀ a ∈ A, Wf a) ∧ Sorted (A.map txt)

theorem good_nil : Good [] := ⟨by simp, List.Pairwise.nil⟩
theorem withP_txt (A : List St) (s : St) : (withP A s).map txt = withT (A.map txt) (txt s) := by
  simp [withP, withT, List.filter_map, Function.comp_def]
theorem withP_good {A : List St} {s : St} (h : Good A) (hs : Wf s) : Good (withP A s) := by
  refine ⟨fun a ha => ?_, by rw [withP_txt]; exact withT_sorted _ _ h.2⟩
  simp only [withP, List.mem_append, List.mem_cons, List.mem_filter] at ha
  rcases ha with ha | rfl | ha
  · exact h.1 a ha.1
  · exact hs
  · exact h.1 a ha.1
theorem dropP_txt {A : List St} {s : St} (h : ∀ a ∈ A, Wf a) (hs : Wf s) : (dropP A s).map txt = (A.map txt).filter (fun r => !(r == txt s)) := by
  induction A with
  | nil => rfl
  | cons a A ih =>
    have iha := ih (fun b hb => h b (by simp [hb]))
    simp only [dropP] at iha
    by_cases e : a = s
    · subst e; simp [dropP, iha]
    · have : txt a ≠ txt s := fun c => e (txt_inj (h a (by simp)) hs c)
      simp [dropP, e, this, iha]
theorem dropP_good {A : List St} {s : St} (h : Good A) : Good (dropP A s) := by
  refine ⟨fun a ha => h.1 a (List.mem_filter.1 ha).1, ?_⟩
  exact List.Pairwise.sublist (List.Sublist.map txt List.filter_sublist) h.2
theorem dropP_len {A : List St} {s : St} (h : ∀ a ∈ A, Wf a) (hs : Wf s) : ((dropP A s).length = A.length) ↔ has (A.map txt) (txt s) = false := by
  have hm : has (A.map txt) (txt s) = true ↔ s ∈ A := by
    rw [has_iff, List.mem_map]
    exact ⟨fun ⟨a, ha, e⟩ => txt_inj (h a ha) hs e ▸ ha, fun ha => ⟨s, ha, rfl⟩⟩
  unfold dropP
  rw [List.length_filter_eq_length_iff]
  constructor
  · intro hf
    cases e : has (A.map txt) (txt s) with
    | false => rfl
    | true => have := hf s (hm.1 e); simp at this
  · intro e a ha
    by_cases c : a = s
    · subst c; rw [hm.2 ha] at e; cases e
    · simp [c]
theorem dropP_le (A : List St) (s : St) : (dropP A s).length ≤ A.length := List.length_filter_le _ _
theorem withP_le (A : List St) (s : St) : (withP A s).length ≤ 2 * A.length + 1 := by
  have h1 := List.length_filter_le (fun a => lt (txt a) (txt s)) A
  have h2 := List.length_filter_le (fun a => lt (txt s) (txt a)) A
  simp [withP]; omega
theorem len_withT : ∀ (R : List (List UInt8)) (t : List UInt8), (withT R t).length ≤ R.length + 1
  | [], t => by simp [withT]
  | r :: rs, t => by
    have ih := len_withT rs t
    simp only [withT, List.length_append, List.length_cons] at ih ⊢
    simp only [List.filter_cons]
    cases h : lt r t
    · cases h' : lt t r <;> simp <;> omega
    · rw [lt_asymm h]; simp; omega

end Go.Proofs.Ytmjlcajcobbcgab.Al

namespace Go.Proofs.Ytmjlcajcobbcgab.Al

/-- A program's text, statement by statement: the statements so far; the place of the first byte that cannot stand there. -/
def parse (l : List UInt8) : Nat → Nat → List St → List St × Nat × Bool
  | 0, i, A => (A, i, true)
  | n + 1, i, A =>
    if i < l.length then
      if kindOf (l.drop i) < 4 then parse l n (i + shpLen (kindOf (l.drop i))) (withP A (mkSt (kindOf (l.drop i)) (l.drop i)))
      else ([], i + fur (l.drop i) 4, false)
    else (A, i, true)

theorem parse_end (l : List UInt8) (n i : Nat) (A : List St) (h : ¬ i < l.length) : parse l n i A = (A, i, true) := by
  cases n with
  | zero => rfl
  | succ n => simp [parse, h]
theorem parse_good (l : List UInt8) (n i : Nat) (A : List St) (h : i < l.length) (hk : kindOf (l.drop i) < 4) :
    parse l (n + 1) i A = parse l n (i + shpLen (kindOf (l.drop i))) (withP A (mkSt (kindOf (l.drop i)) (l.drop i))) := by simp [parse, h, hk]
theorem parse_bad (l : List UInt8) (n i : Nat) (A : List St) (h : i < l.length) (hk : ¬ kindOf (l.drop i) < 4) :
    parse l (n + 1) i A = ([], i + fur (l.drop i) 4, false) := by simp [parse, h, hk]

/-- Load: the error, the place, the statements. -/
def loadP (l : List UInt8) : Nat × Nat × List St :=
  if 200 < l.length then (1, 0, []) else
    if (parse l l.length 0 []).2.2 = false then (2, (parse l l.length 0 []).2.1, []) else
      if 24 < (parse l l.length 0 []).1.length then (3, 0, []) else (0, 0, (parse l l.length 0 []).1)

/-- A text of one statement: the error, the place. -/
def oneP (l : List UInt8) : Nat × Nat :=
  if 200 < l.length then (1, 0) else if (refStmt l 0).2 = false ∨ (refStmt l 0).1 < l.length then (2, (refStmt l 0).1) else (0, 0)

theorem shpLen_ge (k : Nat) : 4 ≤ shpLen k ∧ shpLen k ≤ 6 := by unfold shpLen; split; omega; split <;> omega
theorem withP_len (A : List St) (s : St) : (withP A s).length ≤ A.length + 1 := by
  have := len_withT (A.map txt) (txt s)
  rw [← withP_txt] at this
  simpa using this

/-- What stands at a place where a statement can be read. -/
theorem stmt_yes {l : List UInt8} {i : Nat} (hk : kindOf (l.drop i) < 4) :
    refStmt l i = (i + shpLen (kindOf (l.drop i)), true) ∧ i + shpLen (kindOf (l.drop i)) ≤ l.length ∧ Wf (mkSt (kindOf (l.drop i)) (l.drop i)) ∧
      txt (mkSt (kindOf (l.drop i)) (l.drop i)) = (l.drop i).take (shpLen (kindOf (l.drop i))) := by
  have h := mk_ok (l.drop i) hk
  have := shpLen_ge (kindOf (l.drop i))
  refine ⟨by rw [read_same, if_pos hk], ?_, h.1, h.2.1⟩
  have h3 := h.2.2.1
  rw [List.length_drop] at h3
  omega
theorem stmt_no {l : List UInt8} {i : Nat} (hk : ¬ kindOf (l.drop i) < 4) : refStmt l i = (i + fur (l.drop i) 4, false) := by rw [read_same, if_neg hk]
theorem fur_le (u : List UInt8) : ∀ k, fur u k ≤ 6
  | 0 => by simp [fur]
  | k + 1 => by
    have h1 := fur_le u k
    have h2 := fitN_le_left (shp k) u
    have h3 := shpLen_ge k
    rw [shp_length] at h2
    simp only [fur]; split <;> omega
theorem refStmt_le (l : List UInt8) (i : Nat) : (refStmt l i).1 ≤ i + 6 := by
  rw [read_same]
  have := shpLen_ge (kindOf (l.drop i))
  have := fur_le (l.drop i) 4
  split <;> simp <;> omega

/-- One statement: its text is the whole text. -/
theorem one_yes {l : List UInt8} (h : (oneP l).1 = 0) : kindOf l < 4 ∧ Wf (mkSt (kindOf l) l) ∧ txt (mkSt (kindOf l) l) = l ∧ l.length ≤ 200 := by
  unfold oneP at h
  split at h
  · simp at h
  · split at h
    · simp at h
    · rename_i h1 h2
      have hk : kindOf l < 4 := by
        rcases Nat.lt_or_ge (kindOf l) 4 with h | h
        · exact h
        · exact absurd (Or.inl (by rw [read_same, if_neg (by simp; omega)])) h2
      have := stmt_yes (l := l) (i := 0) (by simpa using hk)
      simp only [List.drop_zero, Nat.zero_add] at this
      refine ⟨hk, this.2.2.1, ?_, by omega⟩
      rw [this.2.2.2]
      apply List.take_of_length_le
      have h3 := this.1
      rw [h3] at h2
      simp at h2
      omega
theorem one_zero {l : List UInt8} (h : (oneP l).1 = 0) : oneP l = (0, 0) := by
  unfold oneP at h ⊢
  by_cases a : 200 < l.length
  · rw [if_pos a] at h; simp at h
  · rw [if_neg a] at h ⊢
    by_cases b : (refStmt l 0).2 = false ∨ (refStmt l 0).1 < l.length
    · rw [if_pos b] at h; simp at h
    · rw [if_neg b]
end Go.Proofs.Ytmjlcajcobbcgab.Al

namespace Go.Proofs.Ytmjlcajcobbcgab.Al

/-! What is printed is read back. -/
theorem wf_kinds {s : St} (h : Wf s) :
    (∃ x o, s = (0, x, 0, o, 0) ∧ vB x.toNat = true ∧ oB o.toNat = true) ∨ (∃ x y, s = (1, x, y, 0, 0) ∧ vB x.toNat = true ∧ vB y.toNat = true) ∨
    (∃ x y f, s = (2, x, y, 0, f) ∧ vB x.toNat = true ∧ vB y.toNat = true ∧ fB f.toNat = true) ∨ (∃ x y f, s = (3, x, y, 0, f) ∧ vB x.toNat = true ∧ vB y.toNat = true ∧ fB f.toNat = true) := by
  obtain ⟨k, x, y, o, f⟩ := s
  simp only [Wf] at h
  rcases h with ⟨h0, ⟨rfl, rfl, h1, rfl⟩ | ⟨rfl, h1, rfl, rfl⟩ | ⟨rfl | rfl, h1, rfl, h2⟩⟩
  · exact .inl ⟨x, o, rfl, h0, h1⟩
  · exact .inr (.inl ⟨x, y, rfl, h0, h1⟩)
  · exact .inr (.inr (.inl ⟨x, y, f, rfl, h0, h1, h2⟩))
  · exact .inr (.inr (.inr ⟨x, y, f, rfl, h0, h1, h2⟩))
theorem bt0 (a : UInt8) (u : List UInt8) : bt (a :: u) 0 = a.toNat := rfl
theorem bt1 (a b : UInt8) (u : List UInt8) : bt (a :: b :: u) 1 = b.toNat := rfl
theorem bt2 (a b c : UInt8) (u : List UInt8) : bt (a :: b :: c :: u) 2 = c.toNat := rfl
theorem bt3 (a b c d : UInt8) (u : List UInt8) : bt (a :: b :: c :: d :: u) 3 = d.toNat := rfl
theorem bt4 (a b c d e : UInt8) (u : List UInt8) : bt (a :: b :: c :: d :: e :: u) 4 = e.toNat := rfl
theorem bt5 (a b c d e f : UInt8) (u : List UInt8) : bt (a :: b :: c :: d :: e :: f :: u) 5 = f.toNat := rfl
theorem kind_txt {s : St} (h : Wf s) (u : List UInt8) : kindOf (txt s ++ u) = s.1 := by
  rcases wf_kinds h with ⟨x, o, rfl, h0, h1⟩ | ⟨x, y, rfl, h0, h1⟩ | ⟨x, y, f, rfl, h0, h1, h2⟩ | ⟨x, y, f, rfl, h0, h1, h2⟩
  · show kindOf (x :: 61 :: 64 :: o :: 59 :: u) = 0
    unfold kindOf
    rw [fit0, bt0, bt1, bt2, bt3, bt4, h0, h1]
    simp
  · show kindOf (x :: 61 :: y :: 59 :: u) = 1
    have hy : y.toNat ≠ 64 := by simp [vB] at h1; omega
    unfold kindOf
    rw [fit0, fit1, bt0, bt1, bt2, bt3, h0, h1]
    simp [hy]
  · show kindOf (x :: 61 :: y :: 46 :: f :: 59 :: u) = 2
    have hy : y.toNat ≠ 64 := by simp [vB] at h1; omega
    unfold kindOf
    rw [fit0, fit1, fit2, bt0, bt1, bt2, bt3, bt4, bt5, h0, h1, h2]
    simp [hy]
  · show kindOf (x :: 46 :: f :: 61 :: y :: 59 :: u) = 3
    unfold kindOf
    rw [fit0, fit1, fit2, fit3, bt0, bt1, bt2, bt3, bt4, bt5, h0, h1, h2]
    simp
theorem txt_length (s : St) : (txt s).length = shpLen s.1 := by simp [txt, shp_length]
theorem wf_lt {s : St} (h : Wf s) : s.1 < 4 := by
  rcases wf_kinds h with ⟨x, o, rfl, h0, h1⟩ | ⟨x, y, rfl, h0, h1⟩ | ⟨x, y, f, rfl, h0, h1, h2⟩ | ⟨x, y, f, rfl, h0, h1, h2⟩ <;> simp
theorem mk_txt {s : St} (h : Wf s) (u : List UInt8) : mkSt (kindOf (txt s ++ u)) (txt s ++ u) = s := by
  have hk : kindOf (txt s ++ u) < 4 := by rw [kind_txt h]; exact wf_lt h
  have hm := mk_ok (txt s ++ u) hk
  refine txt_inj hm.1 h ?_
  rw [hm.2.1, kind_txt h, ← txt_length, List.take_left]

def catL (A : List St) : List UInt8 := (A.map txt).flatten
theorem withP_end {A : List St} {s : St} (h : Sorted ((A ++ [s]).map txt)) : withP A s = A ++ [s] := by
  unfold Sorted at h
  rw [List.map_append, List.pairwise_append] at h
  have h1 : ∀ a ∈ A, lt (txt a) (txt s) = true := fun a ha => h.2.2 (txt a) (List.mem_map_of_mem ha) (txt s) (by simp)
  unfold withP
  rw [List.filter_eq_self.2 h1, List.filter_eq_nil_iff.2 (fun a ha => by rw [lt_asymm (h1 a ha)]; simp)]
theorem parse_back : ∀ (A2 A1 : List St) (n : Nat), Good (A1 ++ A2) → A2.length ≤ n → parse (catL (A1 ++ A2)) n (catL A1).length A1 = (A1 ++ A2, (catL (A1 ++ A2)).length, true)
  | [], A1, n, _, _ => by rw [List.append_nil]; exact parse_end _ _ _ _ (by omega)
  | s :: A3, A1, n, hg, hn => by
    cases n with
    | zero => simp at hn
    | succ n =>
      have hs : Wf s := hg.1 s (by simp)
      have he : catL (A1 ++ s :: A3) = catL A1 ++ (txt s ++ catL A3) := by simp [catL]
      have hd : (catL (A1 ++ s :: A3)).drop (catL A1).length = txt s ++ catL A3 := by rw [he, List.drop_left]
      have hl := txt_len s hs
      have hlt : (catL A1).length < (catL (A1 ++ s :: A3)).length := by rw [he]; simp; omega
      have hk : kindOf ((catL (A1 ++ s :: A3)).drop (catL A1).length) < 4 := by rw [hd, kind_txt hs]; exact wf_lt hs
      rw [parse_good _ _ _ _ hlt hk, hd, mk_txt hs, kind_txt hs, ← txt_length]
      have hsort : Sorted ((A1 ++ [s]).map txt) := by
        have := hg.2
        unfold Sorted at this ⊢
        rw [show A1 ++ s :: A3 = (A1 ++ [s]) ++ A3 from by simp, List.map_append] at this
        exact (List.pairwise_append.1 this).1
      rw [withP_end hsort]
      have hi := parse_back A3 (A1 ++ [s]) n (by simpa using hg) (by simpa using hn)
      have hcl : (catL (A1 ++ [s])).length = (catL A1).length + (txt s).length := by simp [catL]
      rw [hcl] at hi
      simpa using hi
theorem catL_len {A : List St} (h : ∀ a ∈ A, Wf a) : 4 * A.length ≤ (catL A).length ∧ (catL A).length ≤ 6 * A.length := by
  induction A with
  | nil => simp [catL]
  | cons a A ih =>
    have h1 := txt_len a (h a (by simp))
    have h2 := ih fun b hb => h b (by simp [hb])
    simp only [catL, List.map_cons, List.flatten_cons, List.length_append, List.length_cons] at h2 ⊢
    omega
theorem load_back {A : List St} (h : Good A) (hl : A.length ≤ 24) : loadP (catL A) = (0, 0, A) := by
  have hb := parse_back A [] (catL A).length (by simpa using h) (by have := (catL_len h.1).1; omega)
  simp only [List.nil_append] at hb
  rw [show (catL []).length = 0 from rfl] at hb
  have h2 := (catL_len h.1).2
  unfold loadP
  rw [if_neg (by omega), hb]
  simp
  omega
end Go.Proofs.Ytmjlcajcobbcgab.Al

namespace Go.Proofs.Ytmjlcajcobbcgab.Al

/-! Tables: T v o: may the variable v point to the site o? (12 variables, 12 sites.) -/
abbrev Tb := Nat → Nat → Bool
def vi (c : UInt8) : Nat := c.toNat - 97
def si (c : UInt8) : Nat := c.toNat - 65
def emptyT : Tb := fun _ _ => false
def withinT (T : Tb) (v w : Nat) : Tb := fun a o => T a o || (a == v && T w o)
def newBit (T : Tb) (v w : Nat) : Bool := (List.range 12).any fun o => T w o && !T v o
def meetT (T : Tb) (v w : Nat) : Bool := (List.range 12).any fun o => T v o && T w o
def setT (T : Tb) (v o : Nat) : Tb := fun a p => T a p || (a == v && p == o)

/-- A load by one store. -/
def loadStep (tld : Bool) (s : St) (a : Tb × Bool) (p : St) : Tb × Bool :=
  if p.1 = 3 ∧ p.2.2.2.2 = s.2.2.2.2 then
    if meetT a.1 (vi p.2.1) (vi s.2.2.1) = true ∨ tld = false then (withinT a.1 (vi s.2.1) (vi p.2.2.1), a.2 || newBit a.1 (vi s.2.1) (vi p.2.2.1)) else a
  else a
def loadsP (A : List St) (tld : Bool) (s : St) (T : Tb) : Tb × Bool := A.foldl (loadStep tld s) (T, false)
def told (f : List UInt8) (c : UInt8) : Bool := f.any (fun d => d == c)
/-- One statement of a round. -/
def stmtStep (A : List St) (f : List UInt8) (a : Tb × Bool) (s : St) : Tb × Bool :=
  if s.1 = 0 then (setT a.1 (vi s.2.1) (si s.2.2.2.1), a.2 || !a.1 (vi s.2.1) (si s.2.2.2.1))
  else if s.1 = 1 then (withinT a.1 (vi s.2.1) (vi s.2.2.1), a.2 || newBit a.1 (vi s.2.1) (vi s.2.2.1))
  else if s.1 = 2 then ((loadsP A (told f s.2.2.2.2) s a.1).1, a.2 || (loadsP A (told f s.2.2.2.2) s a.1).2)
  else a
def roundP (A : List St) (f : List UInt8) (T : Tb) : Tb × Bool := A.foldl (stmtStep A f) (T, false)

/-- A table obeys a program, the fields of f being told apart. -/
def Obeys (A : List St) (f : List UInt8) (S : Tb) : Prop :=
  ∀ s ∈ A, (s.1 = 0 → S (vi s.2.1) (si s.2.2.2.1) = true) ∧
    (s.1 = 1 → ∀ o, o < 12 → S (vi s.2.2.1) o = true → S (vi s.2.1) o = true) ∧
    (s.1 = 2 → ∀ p ∈ A, p.1 = 3 → p.2.2.2.2 = s.2.2.2.2 → (told f s.2.2.2.2 = false ∨ ∃ q, q < 12 ∧ S (vi p.2.1) q = true ∧ S (vi s.2.2.1) q = true) → ∀ o, o < 12 → S (vi p.2.2.1) o = true → S (vi s.2.1) o = true)
/-- Within the twelve sites. -/
def Le (T S : Tb) : Prop := ∀ v o, o < 12 → T v o = true → S v o = true
theorem Le.refl (T : Tb) : Le T T := fun _ _ _ h => h
theorem Le.trans {A B C : Tb} (h : Le A B) (k : Le B C) : Le A C := fun v o ho h1 => k v o ho (h v o ho h1)

theorem le_within (T : Tb) (v w : Nat) : Le T (withinT T v w) := fun a o _ h => by simp [withinT, h]
theorem within_le {T S : Tb} {v w : Nat} (h : Le T S) (hs : ∀ o, o < 12 → S w o = true → S v o = true) : Le (withinT T v w) S := by
  intro a o ho h1
  simp only [withinT, Bool.or_eq_true, Bool.and_eq_true, beq_iff_eq] at h1
  rcases h1 with h1 | ⟨rfl, h1⟩
  · exact h a o ho h1
  · exact hs o ho (h w o ho h1)
theorem newBit_false {T : Tb} {v w : Nat} (h : newBit T v w = false) : ∀ o, o < 12 → T w o = true → T v o = true := by
  intro o ho h1
  simp only [newBit, List.any_eq_false, List.mem_range, Bool.and_eq_true, Bool.not_eq_true', not_and, Bool.not_eq_false] at h
  exact h o ho h1
theorem within_same {T : Tb} {v w : Nat} (h : newBit T v w = false) : Le (withinT T v w) T := within_le (Le.refl T) (newBit_false h)
theorem meet_iff (T : Tb) (v w : Nat) : meetT T v w = true ↔ ∃ q, q < 12 ∧ T v q = true ∧ T w q = true := by
  simp [meetT]
theorem meet_mono {T S : Tb} {v w : Nat} (h : Le T S) (hm : meetT T v w = true) : ∃ q, q < 12 ∧ S v q = true ∧ S w q = true := by
  obtain ⟨q, hq, h1, h2⟩ := (meet_iff T v w).1 hm
  exact ⟨q, hq, h v q hq h1, h w q hq h2⟩

/-- What a fold of steps does, if each step does it. -/
theorem fold_le {β : Type} {st : Tb × Bool → β → Tb × Bool} (h1 : ∀ a b, Le a.1 (st a b).1) : ∀ (l : List β) (a : Tb × Bool), Le a.1 (l.foldl st a).1
  | [], _ => Le.refl _
  | b :: l, a => (h1 a b).trans (fold_le h1 l (st a b))
theorem fold_up {β : Type} {st : Tb × Bool → β → Tb × Bool} {S : Tb} : ∀ (l : List β), (∀ a, ∀ b ∈ l, Le a.1 S → Le (st a b).1 S) → ∀ (a : Tb × Bool), Le a.1 S → Le (l.foldl st a).1 S
  | [], _, _, h => h
  | b :: l, hs, a, h => fold_up l (fun a c hc => hs a c (by simp [hc])) (st a b) (hs a b (by simp) h)
theorem fold_flag {β : Type} {st : Tb × Bool → β → Tb × Bool} (h1 : ∀ a b, a.2 = true → (st a b).2 = true) : ∀ (l : List β) (a : Tb × Bool), a.2 = true → (l.foldl st a).2 = true
  | [], _, h => h
  | b :: l, a, h => fold_flag h1 l (st a b) (h1 a b h)
/-- Nothing turned: each step left the table as it was. -/
theorem fold_still {β : Type} {st : Tb × Bool → β → Tb × Bool} (hle : ∀ a b, Le a.1 (st a b).1) (hflag : ∀ a b, a.2 = true → (st a b).2 = true) (hst : ∀ a b, (st a b).2 = false → Le (st a b).1 a.1) :
    ∀ (l : List β) (a : Tb × Bool), (l.foldl st a).2 = false → Le (l.foldl st a).1 a.1 ∧ ∀ b ∈ l, ∃ a', Le a.1 a'.1 ∧ Le a'.1 a.1 ∧ (st a' b).2 = false
  | [], a, _ => ⟨Le.refl _, by simp⟩
  | b :: l, a, h => by
    have h2 : (st a b).2 = false := by
      cases e : (st a b).2 with
      | false => rfl
      | true =>
        have hh := fold_flag hflag l (st a b) e
        simp only [List.foldl_cons] at h
        rw [hh] at h; cases h
    have ih := fold_still hle hflag hst l (st a b) h
    have hb := hst a b h2
    refine ⟨ih.1.trans hb, fun c hc => ?_⟩
    rcases List.mem_cons.1 hc with rfl | hc
    · exact ⟨a, Le.refl _, Le.refl _, h2⟩
    · obtain ⟨a', g1, g2, g3⟩ := ih.2 c hc
      exact ⟨a', (hle a b).trans g1, g2.trans hb, g3⟩

theorem loadStep_le (tld : Bool) (s : St) (a : Tb × Bool) (p : St) : Le a.1 (loadStep tld s a p).1 := by
  unfold loadStep
  split
  · split
    · exact le_within _ _ _
    · exact Le.refl _
  · exact Le.refl _
theorem loadStep_flag (tld : Bool) (s : St) (a : Tb × Bool) (p : St) (h : a.2 = true) : (loadStep tld s a p).2 = true := by
  unfold loadStep
  split
  · split
    · simp [h]
    · exact h
  · exact h
theorem loadStep_still (tld : Bool) (s : St) (a : Tb × Bool) (p : St) (h : (loadStep tld s a p).2 = false) : Le (loadStep tld s a p).1 a.1 := by
  unfold loadStep at h ⊢
  split
  · rename_i c1
    rw [if_pos c1] at h
    split
    · rename_i c2
      rw [if_pos c2] at h
      simp at h
      exact within_same h.2
    · exact Le.refl _
  · exact Le.refl _

theorem stmtStep_le (A : List St) (f : List UInt8) (a : Tb × Bool) (s : St) : Le a.1 (stmtStep A f a s).1 := by
  unfold stmtStep
  split
  · exact fun v o _ h => by simp [setT, h]
  · split
    · exact le_within _ _ _
    · split
      · exact fold_le (loadStep_le _ s) A (a.1, false)
      · exact Le.refl _
theorem stmtStep_flag (A : List St) (f : List UInt8) (a : Tb × Bool) (s : St) (h : a.2 = true) : (stmtStep A f a s).2 = true := by
  unfold stmtStep
  split
  · simp [h]
  · split
    · simp [h]
    · split
      · simp [h]
      · exact h
theorem stmtStep_still (A : List St) (f : List UInt8) (a : Tb × Bool) (s : St) (h : (stmtStep A f a s).2 = false) : Le (stmtStep A f a s).1 a.1 := by
  unfold stmtStep at h ⊢
  by_cases c0 : s.1 = 0
  · rw [if_pos c0] at h ⊢
    simp at h
    intro v o ho h1
    simp only [setT, Bool.or_eq_true, Bool.and_eq_true, beq_iff_eq] at h1
    rcases h1 with h1 | ⟨rfl, rfl⟩
    · exact h1
    · exact h.2
  · rw [if_neg c0] at h ⊢
    by_cases c1 : s.1 = 1
    · rw [if_pos c1] at h ⊢
      simp at h
      exact within_same h.2
    · rw [if_neg c1] at h ⊢
      by_cases c2 : s.1 = 2
      · rw [if_pos c2] at h ⊢
        simp at h
        exact (fold_still (loadStep_le _ s) (loadStep_flag _ s) (loadStep_still _ s) A (a.1, false) h.2).1
      · rw [if_neg c2]; exact Le.refl _

/-- A round stays below whatever table obeys. -/
theorem round_up {A : List St} {f : List UInt8} {T S : Tb} (hS : Obeys A f S) (h : Le T S) : Le (roundP A f T).1 S := by
  refine fold_up A (fun a s hs ha => ?_) (T, false) h
  obtain ⟨o0, o1, o2⟩ := hS s hs
  unfold stmtStep
  by_cases c0 : s.1 = 0
  · rw [if_pos c0]
    intro v o ho h1
    simp only [setT, Bool.or_eq_true, Bool.and_eq_true, beq_iff_eq] at h1
    rcases h1 with h1 | ⟨rfl, rfl⟩
    · exact ha v o ho h1
    · exact o0 c0
  · rw [if_neg c0]
    by_cases c1 : s.1 = 1
    · rw [if_pos c1]; exact within_le ha (o1 c1)
    · rw [if_neg c1]
      by_cases c2 : s.1 = 2
      · rw [if_pos c2]
        refine fold_up A (fun b p hp hb => ?_) (a.1, false) ha
        unfold loadStep
        split
        · rename_i c3
          split
          · rename_i c4
            refine within_le hb (o2 c2 p hp c3.1 c3.2 ?_)
            rcases c4 with c4 | c4
            · exact .inr (meet_mono hb c4)
            · exact .inl c4
          · exact hb
        · exact hb
      · rw [if_neg c2]; exact ha
theorem round_le (A : List St) (f : List UInt8) (T : Tb) : Le T (roundP A f T).1 := fold_le (stmtStep_le A f) A (T, false)

theorem stmt_of_still {A : List St} {f : List UInt8} {T : Tb} {a : Tb × Bool} {s : St} (h1 : Le T a.1) (h2 : Le a.1 T) (h : (stmtStep A f a s).2 = false) (hsi : s.1 = 0 → si s.2.2.2.1 < 12) :
    (s.1 = 0 → T (vi s.2.1) (si s.2.2.2.1) = true) ∧ (s.1 = 1 → ∀ o, o < 12 → T (vi s.2.2.1) o = true → T (vi s.2.1) o = true) ∧
    (s.1 = 2 → ∀ p ∈ A, p.1 = 3 → p.2.2.2.2 = s.2.2.2.2 → (told f s.2.2.2.2 = false ∨ ∃ q, q < 12 ∧ T (vi p.2.1) q = true ∧ T (vi s.2.2.1) q = true) → ∀ o, o < 12 → T (vi p.2.2.1) o = true → T (vi s.2.1) o = true) := by
  unfold stmtStep at h
  refine ⟨fun c0 => ?_, fun c1 => ?_, fun c2 => ?_⟩
  · rw [if_pos c0] at h
    simp at h
    exact h2 _ _ (hsi c0) h.2
  · rw [if_neg (by omega), if_pos c1] at h
    simp at h
    intro o ho ht
    exact h2 _ _ ho (newBit_false h.2 o ho (h1 _ _ ho ht))
  · rw [if_neg (by omega), if_neg (by omega), if_pos c2] at h
    simp at h
    intro p hp c3 c4 hor o ho ht
    obtain ⟨a', g1, g2, g3⟩ := (fold_still (loadStep_le (told f s.2.2.2.2) s) (loadStep_flag _ s) (loadStep_still _ s) A (a.1, false) h.2).2 p hp
    unfold loadStep at g3
    rw [if_pos ⟨c3, c4⟩, if_pos ?_] at g3
    · simp at g3
      exact h2 _ _ ho (g2 _ _ ho (newBit_false g3.2 o ho (g1 _ _ ho (h1 _ _ ho ht))))
    · rcases hor with hf | ⟨q, hq, q1, q2⟩
      · exact .inr hf
      · exact .inl ((meet_iff _ _ _).2 ⟨q, hq, g1 _ _ hq (h1 _ _ hq q1), g1 _ _ hq (h1 _ _ hq q2)⟩)
/-- A round that turned nothing: the table obeys. -/
theorem round_still {A : List St} {f : List UInt8} {T : Tb} (hA : ∀ s ∈ A, s.1 = 0 → si s.2.2.2.1 < 12) (h : (roundP A f T).2 = false) : Le (roundP A f T).1 T ∧ Obeys A f T := by
  have hh := fold_still (stmtStep_le A f) (stmtStep_flag A f) (stmtStep_still A f) A (T, false) h
  refine ⟨hh.1, fun s hs => ?_⟩
  obtain ⟨a', g1, g2, g3⟩ := hh.2 s hs
  exact stmt_of_still g1 g2 g3 (hA s hs)

/-! The working out ends: each round but the last turns a bit. -/
def VarsOk (A : List St) : Prop := ∀ s ∈ A, vi s.2.1 < 12 ∧ vi s.2.2.1 < 12 ∧ (s.1 = 0 → si s.2.2.2.1 < 12)
theorem varsOk_of_wf {A : List St} (h : ∀ s ∈ A, Wf s) : VarsOk A := by
  intro s hs
  have hw := h s hs
  obtain ⟨k, x, y, o, f⟩ := s
  simp only [Wf, vB, oB, Bool.and_eq_true, decide_eq_true_eq] at hw
  simp only [vi, si]
  rcases hw with ⟨h0, ⟨rfl, rfl, h1, rfl⟩ | ⟨rfl, h1, rfl, rfl⟩ | ⟨h3, h1, rfl, _⟩⟩
  · refine ⟨by omega, by decide, fun _ => by omega⟩
  · exact ⟨by omega, by omega, fun h => by omega⟩
  · exact ⟨by omega, by omega, fun h => by omega⟩

def Gains (T S : Tb) : Prop := ∃ v o, v < 12 ∧ o < 12 ∧ S v o = true ∧ T v o = false
theorem Gains.mono {T S U : Tb} (h : Gains T S) (hu : Le S U) : Gains T U := let ⟨v, o, h1, h2, h3, h4⟩ := h; ⟨v, o, h1, h2, hu v o h2 h3, h4⟩
theorem Gains.early {T S U : Tb} (h : Gains S U) (ht : Le T S) : Gains T U := by
  obtain ⟨v, o, h1, h2, h3, h4⟩ := h
  refine ⟨v, o, h1, h2, h3, ?_⟩
  cases e : T v o with
  | false => rfl
  | true => rw [ht v o h2 e] at h4; cases h4
theorem fold_gain {β : Type} {st : Tb × Bool → β → Tb × Bool} (hle : ∀ a b, Le a.1 (st a b).1) : ∀ (l : List β), (∀ a, ∀ b ∈ l, a.2 = false → (st a b).2 = true → Gains a.1 (st a b).1) →
    ∀ (a : Tb × Bool), a.2 = false → (l.foldl st a).2 = true → Gains a.1 (l.foldl st a).1
  | [], _, a, h1, h2 => by simp only [List.foldl_nil] at h2; rw [h1] at h2; cases h2
  | b :: l, hg, a, h1, h2 => by
    simp only [List.foldl_cons] at h2 ⊢
    cases e : (st a b).2 with
    | true => exact (hg a b (by simp) h1 e).mono (fold_le hle l (st a b))
    | false => exact (fold_gain hle l (fun a c hc => hg a c (by simp [hc])) (st a b) e h2).early (hle a b)
theorem newBit_gain {T : Tb} {v w : Nat} (hv : v < 12) (h : newBit T v w = true) : Gains T (withinT T v w) := by
  simp only [newBit, List.any_eq_true, List.mem_range, Bool.and_eq_true, Bool.not_eq_true'] at h
  obtain ⟨o, ho, h1, h2⟩ := h
  exact ⟨v, o, hv, ho, by simp [withinT, h1], h2⟩
theorem loadStep_gain {tld : Bool} {s p : St} (hv : vi s.2.1 < 12) (a : Tb × Bool) (h1 : a.2 = false) (h2 : (loadStep tld s a p).2 = true) : Gains a.1 (loadStep tld s a p).1 := by
  unfold loadStep at h2 ⊢
  by_cases c1 : p.1 = 3 ∧ p.2.2.2.2 = s.2.2.2.2
  · rw [if_pos c1] at h2 ⊢
    by_cases c2 : meetT a.1 (vi p.2.1) (vi s.2.2.1) = true ∨ tld = false
    · rw [if_pos c2] at h2 ⊢
      simp [h1] at h2
      exact newBit_gain hv h2
    · rw [if_neg c2] at h2; rw [h1] at h2; cases h2
  · rw [if_neg c1] at h2; rw [h1] at h2; cases h2
theorem round_gain {A : List St} {f : List UInt8} {T : Tb} (hA : VarsOk A) (h : (roundP A f T).2 = true) : Gains T (roundP A f T).1 := by
  refine fold_gain (stmtStep_le A f) A (fun a s hs h1 h2 => ?_) (T, false) rfl h
  obtain ⟨hv, hw, hsi⟩ := hA s hs
  unfold stmtStep at h2 ⊢
  by_cases c0 : s.1 = 0
  · rw [if_pos c0] at h2 ⊢
    simp [h1] at h2
    exact ⟨_, _, hv, hsi c0, by simp [setT], h2⟩
  · rw [if_neg c0] at h2 ⊢
    by_cases c1 : s.1 = 1
    · rw [if_pos c1] at h2 ⊢
      simp [h1] at h2
      exact newBit_gain hv h2
    · rw [if_neg c1] at h2 ⊢
      by_cases c2 : s.1 = 2
      · rw [if_pos c2] at h2 ⊢
        simp [h1] at h2
        exact fold_gain (loadStep_le _ s) A (fun b p _ g1 g2 => loadStep_gain hv b g1 g2) (a.1, false) rfl h2
      · rw [if_neg c2] at h2; rw [h1] at h2; cases h2

def cnt (T : Tb) : Nat := ((List.range 144).filter fun i => T (i / 12) (i % 12)).length
theorem cnt_le (T : Tb) : cnt T ≤ 144 := by
  have := List.length_filter_le (fun i => T (i / 12) (i % 12)) (List.range 144)
  simpa [cnt] using this
theorem filter_lt {l : List Nat} {p q : Nat → Bool} (h : ∀ i ∈ l, p i = true → q i = true) (hx : ∃ i ∈ l, q i = true ∧ p i = false) : (l.filter p).length < (l.filter q).length := by
  induction l with
  | nil => obtain ⟨i, hi, _⟩ := hx; simp at hi
  | cons a l ih =>
    have hmono : ∀ l' : List Nat, (∀ i ∈ l', p i = true → q i = true) → (l'.filter p).length ≤ (l'.filter q).length := by
      intro l' hl'
      induction l' with
      | nil => simp
      | cons b l' ih' =>
        have := ih' (fun i hi => hl' i (by simp [hi]))
        have hb := hl' b (by simp)
        cases e1 : p b <;> cases e2 : q b <;> simp [e1, e2] at * <;> omega
    obtain ⟨i, hi, h1, h2⟩ := hx
    rcases List.mem_cons.1 hi with rfl | hi
    · have := hmono l (fun i hi => h i (by simp [hi]))
      simp [h1, h2]; omega
    · have := ih (fun i hi => h i (by simp [hi])) ⟨i, hi, h1, h2⟩
      have ha := h a (by simp)
      cases e1 : p a <;> cases e2 : q a <;> simp [e1, e2] at * <;> omega
theorem cnt_gain {T S : Tb} (hle : Le T S) (h : Gains T S) : cnt T < cnt S := by
  obtain ⟨v, o, hv, ho, h1, h2⟩ := h
  refine filter_lt (fun i _ hi => hle _ _ (by omega) hi) ⟨v * 12 + o, by simp; omega, ?_, ?_⟩
  · rw [show (v * 12 + o) / 12 = v from by omega, show (v * 12 + o) % 12 = o from by omega]; exact h1
  · rw [show (v * 12 + o) / 12 = v from by omega, show (v * 12 + o) % 12 = o from by omega]; exact h2

theorem obeys_congr {A : List St} {f : List UInt8} {T S : Tb} (hA : VarsOk A) (h1 : Le T S) (h2 : Le S T) (h : Obeys A f T) : Obeys A f S := by
  intro s hs
  obtain ⟨o0, o1, o2⟩ := h s hs
  refine ⟨fun c => h1 _ _ ((hA s hs).2.2 c) (o0 c), fun c o ho hs' => h1 _ _ ho (o1 c o ho (h2 _ _ ho hs')), fun c p hp c3 c4 hor o ho hs' => h1 _ _ ho (o2 c p hp c3 c4 ?_ o ho (h2 _ _ ho hs'))⟩
  rcases hor with hf | ⟨q, hq, q1, q2⟩
  · exact .inl hf
  · exact .inr ⟨q, hq, h2 _ _ hq q1, h2 _ _ hq q2⟩

/-- The least table that obeys. -/
def IsLeast (A : List St) (f : List UInt8) (T : Tb) : Prop := Obeys A f T ∧ ∀ S, Obeys A f S → Le T S
/-- What holds behind k rounds: 'm': did the last one turn something? -/
def Goes (A : List St) (f : List UInt8) (k : Nat) (m : Bool) (T : Tb) : Prop := (∀ S, Obeys A f S → Le T S) ∧ (m = true → k ≤ cnt T) ∧ (m = false → Obeys A f T)
theorem goes_zero (A : List St) (f : List UInt8) : Goes A f 0 true emptyT := ⟨fun _ _ v o _ h => by simp [emptyT] at h, fun _ => Nat.zero_le _, fun h => by cases h⟩
theorem goes_succ {A : List St} {f : List UInt8} {k : Nat} {T : Tb} (hA : VarsOk A) (h : Goes A f k true T) : Goes A f (k + 1) (roundP A f T).2 (roundP A f T).1 := by
  refine ⟨fun S hS => round_up hS (h.1 S hS), fun hm => ?_, fun hm => ?_⟩
  · have := cnt_gain (round_le A f T) (round_gain hA hm)
    have := h.2.1 rfl
    omega
  · have hr := round_still (fun s hs c => (hA s hs).2.2 c) hm
    exact obeys_congr hA (round_le A f T) hr.1 hr.2
theorem goes_end {A : List St} {f : List UInt8} {k : Nat} {m : Bool} {T : Tb} (h : Goes A f k m T) (hk : 144 < k ∨ m = false) : IsLeast A f T := by
  cases m with
  | false => exact ⟨h.2.2 rfl, h.1⟩
  | true =>
    have h1 := h.2.1 rfl
    have h2 := cnt_le T
    rcases hk with hk | hk
    · omega
    · cases hk
theorem least_unique {A : List St} {f : List UInt8} {T S : Tb} (h : IsLeast A f T) (k : IsLeast A f S) : ∀ v o, o < 12 → T v o = S v o := by
  intro v o ho
  have h1 := h.2 S k.1 v o ho
  have h2 := k.2 T h.1 v o ho
  cases e1 : T v o <;> cases e2 : S v o <;> simp_all
end Go.Proofs.Ytmjlcajcobbcgab.Al

namespace Go.Proofs.Ytmjlcajcobbcgab.Al

/-- The least table, worked out. -/
def goRun (A : List St) (f : List UInt8) : Nat → Tb → Tb
  | 0, T => T
  | n + 1, T => if (roundP A f T).2 = true then goRun A f n (roundP A f T).1 else (roundP A f T).1
theorem goRun_least {A : List St} {f : List UInt8} (hA : VarsOk A) : ∀ (n k : Nat) (T : Tb), 144 < n + k → Goes A f k true T → IsLeast A f (goRun A f n T)
  | 0, k, T, hn, hg => goes_end hg (.inl (by omega))
  | n + 1, k, T, hn, hg => by
    have h := goes_succ hA hg
    unfold goRun
    by_cases e : (roundP A f T).2 = true
    · rw [if_pos e]
      rw [e] at h
      exact goRun_least hA n (k + 1) _ (by omega) h
    · rw [if_neg e]
      have e' : (roundP A f T).2 = false := by simpa using e
      rw [e'] at h
      exact goes_end h (.inr rfl)
def leastP (A : List St) (f : List UInt8) : Tb := goRun A f 145 emptyT
theorem leastP_is {A : List St} (hA : VarsOk A) (f : List UInt8) : IsLeast A f (leastP A f) := goRun_least hA 145 0 emptyT (by omega) (goes_zero A f)
theorem least_eq {A : List St} {f : List UInt8} {T : Tb} (hA : VarsOk A) (h : IsLeast A f T) (v o : Nat) (ho : o < 12) : T v o = leastP A f v o := least_unique h (leastP_is hA f) v o ho
def allF : List UInt8 := [48, 49, 50, 51, 52, 53]
end Go.Proofs.Ytmjlcajcobbcgab.Al

namespace Go.Proofs.Ytmjlcajcobbcgab.Al

/-! The program's table: twelve rows, each a number whose bits are sites. -/
abbrev Rw := Nat → Nat
def OkR (R : Rw) : Prop := ∀ v, v < 12 → R v < 4096
def tbOf (R : Rw) : Tb := fun v o => decide (v < 12) && (R v).testBit o
def rowAt (R : Rw) (c : Nat) : Nat := if 97 ≤ c ∧ c < 109 then R (c - 97) else 0
def plusR (R : Rw) (c m : Nat) : Rw := fun v => if 97 ≤ c ∧ c < 109 ∧ v = c - 97 then R v ||| m else R v
def meetR (R : Rw) (c d : Nat) : Bool := rowAt R c &&& rowAt R d != 0
def onlyR (o : Nat) : Nat := if 65 ≤ o ∧ o ≤ 76 then 2 ^ (o - 65) else 0
def foundStep (R : Rw) (tld : Bool) (s : St) (out : Nat) (p : St) : Nat :=
  if p.1 = 3 ∧ p.2.2.2.2 = s.2.2.2.2 then if tld = false ∨ meetR R s.2.2.1.toNat p.2.1.toNat = true then out ||| rowAt R p.2.2.1.toNat else out else out
def foundR (A : List St) (R : Rw) (tld : Bool) (s : St) : Nat := A.foldl (foundStep R tld s) 0
def askedR (A : List St) (f : List UInt8) (R : Rw) (s : St) : Nat :=
  if s.1 = 0 then onlyR s.2.2.2.1.toNat else if s.1 = 1 then rowAt R s.2.2.1.toNat else if s.1 = 2 then foundR A R (told f s.2.2.2.2) s else 0
def stepR (A : List St) (f : List UInt8) (R : Rw) (s : St) : Rw := plusR R s.2.1.toNat (askedR A f R s)
def roundR (A : List St) (f : List UInt8) (R : Rw) : Rw := A.foldl (stepR A f) R

theorem bit_lt {n o : Nat} (h : n < 4096) (hb : n.testBit o = true) : o < 12 := by
  rcases Nat.lt_or_ge o 12 with h1 | h1
  · exact h1
  · have : n < 2 ^ o := Nat.lt_of_lt_of_le h (show 4096 ≤ 2 ^ o from by rw [show 4096 = 2 ^ 12 from rfl]; exact Nat.pow_le_pow_right (by decide) h1)
    rw [Nat.testBit_lt_two_pow this] at hb; cases hb
theorem or_ok {a b : Nat} (ha : a < 4096) (hb : b < 4096) : a ||| b < 4096 := Nat.or_lt_two_pow (n := 12) ha hb
theorem rowAt_ok {R : Rw} (h : OkR R) (c : Nat) : rowAt R c < 4096 := by
  unfold rowAt; split
  · exact h _ (by omega)
  · decide
theorem onlyR_ok (o : Nat) : onlyR o < 4096 := by
  unfold onlyR; split
  · rw [show 4096 = 2 ^ 12 from rfl]; exact Nat.pow_lt_pow_right (by decide) (by omega)
  · decide
theorem plusR_ok {R : Rw} (h : OkR R) (c : Nat) {m : Nat} (hm : m < 4096) : OkR (plusR R c m) := by
  intro v hv
  unfold plusR; split
  · exact or_ok (h v hv) hm
  · exact h v hv
theorem foundStep_ok {R : Rw} (h : OkR R) (tld : Bool) (s : St) {out : Nat} (ho : out < 4096) (p : St) : foundStep R tld s out p < 4096 := by
  unfold foundStep
  split
  · split
    · exact or_ok ho (rowAt_ok h _)
    · exact ho
  · exact ho
theorem fold_ok {R : Rw} (h : OkR R) (tld : Bool) (s : St) : ∀ (l : List St) (out : Nat), out < 4096 → l.foldl (foundStep R tld s) out < 4096
  | [], _, ho => ho
  | p :: l, _, ho => fold_ok h tld s l _ (foundStep_ok h tld s ho p)
theorem askedR_ok (A : List St) (f : List UInt8) {R : Rw} (h : OkR R) (s : St) : askedR A f R s < 4096 := by
  unfold askedR
  split
  · exact onlyR_ok _
  · split
    · exact rowAt_ok h _
    · split
      · exact fold_ok h _ _ A 0 (by decide)
      · decide
theorem stepR_ok (A : List St) (f : List UInt8) {R : Rw} (h : OkR R) (s : St) : OkR (stepR A f R s) := plusR_ok h _ (askedR_ok A f h s)
theorem foldR_ok (A : List St) (f : List UInt8) : ∀ (l : List St) {R : Rw}, OkR R → OkR (l.foldl (stepR A f) R)
  | [], _, h => h
  | s :: l, _, h => foldR_ok A f l (stepR_ok A f h s)

theorem rowAt_vi {R : Rw} {c : UInt8} (h : vi c < 12) (h1 : 97 ≤ c.toNat) : rowAt R c.toNat = R (vi c) := by
  unfold rowAt vi at *; rw [if_pos ⟨h1, by omega⟩]
theorem tb_plus {R : Rw} {c : UInt8} {m : Nat} (h : vi c < 12) (h1 : 97 ≤ c.toNat) (v o : Nat) : tbOf (plusR R c.toNat m) v o = (tbOf R v o || (v == vi c && m.testBit o)) := by
  unfold tbOf plusR vi at *
  by_cases e : v = c.toNat - 97
  · subst e
    rw [if_pos ⟨h1, by omega, rfl⟩, Nat.testBit_or]; simp [h]
  · rw [if_neg (fun h => e h.2.2)]; simp [e]
theorem meetR_eq {R : Rw} (hR : OkR R) {c d : UInt8} (h : vi c < 12) (h1 : 97 ≤ c.toNat) (k : vi d < 12) (k1 : 97 ≤ d.toNat) : meetR R c.toNat d.toNat = meetT (tbOf R) (vi c) (vi d) := by
  rw [Bool.eq_iff_iff, meet_iff]
  unfold meetR
  rw [rowAt_vi h h1, rowAt_vi k k1]
  simp only [tbOf, h, k, decide_true, Bool.true_and, bne_iff_ne, ne_eq]
  constructor
  · intro hne
    obtain ⟨o, ho⟩ := Nat.exists_testBit_of_ne_zero hne
    rw [Nat.testBit_and, Bool.and_eq_true] at ho
    exact ⟨o, bit_lt (hR _ h) ho.1, ho.1, ho.2⟩
  · rintro ⟨o, _, h2, h3⟩ e
    have := congrArg (fun n => n.testBit o) e
    simp [Nat.testBit_and, h2, h3] at this

/-- What a statement needs to be read right. -/
def VOk (s : St) : Prop := (vi s.2.1 < 12 ∧ 97 ≤ s.2.1.toNat) ∧ (s.1 = 0 → 65 ≤ s.2.2.2.1.toNat ∧ s.2.2.2.1.toNat ≤ 76) ∧ (s.1 ≠ 0 → vi s.2.2.1 < 12 ∧ 97 ≤ s.2.2.1.toNat)
theorem vOk_of_wf {s : St} (hw : Wf s) : VOk s := by
  obtain ⟨k, x, y, o, f⟩ := s
  simp only [Wf, vB, oB, Bool.and_eq_true, decide_eq_true_eq] at hw
  simp only [VOk, vi]
  rcases hw with ⟨h0, ⟨rfl, rfl, h1, rfl⟩ | ⟨rfl, h1, rfl, rfl⟩ | ⟨h3, h1, rfl, _⟩⟩
  · exact ⟨⟨by omega, by omega⟩, fun _ => by omega, fun h => absurd rfl h⟩
  · exact ⟨⟨by omega, by omega⟩, fun h => by omega, fun _ => ⟨by omega, by omega⟩⟩
  · exact ⟨⟨by omega, by omega⟩, fun h => by omega, fun _ => ⟨by omega, by omega⟩⟩

theorem only_bit {o q : Nat} (h : 65 ≤ o ∧ o ≤ 76) : (onlyR o).testBit q = decide (q = o - 65) := by
  unfold onlyR; rw [if_pos h, Nat.testBit_two_pow]; simp [eq_comm]
theorem foldl_or_bit (R : Rw) (tld : Bool) (s : St) (q : Nat) : ∀ (l : List St) (out : Nat),
    (l.foldl (foundStep R tld s) out).testBit q = true ↔ (out.testBit q = true ∨ ∃ p ∈ l, p.1 = 3 ∧ p.2.2.2.2 = s.2.2.2.2 ∧ (tld = false ∨ meetR R s.2.2.1.toNat p.2.1.toNat = true) ∧ (rowAt R p.2.2.1.toNat).testBit q = true)
  | [], out => by simp
  | p :: l, out => by
    rw [List.foldl_cons, foldl_or_bit R tld s q l]
    have hstep : (foundStep R tld s out p).testBit q = true ↔ (out.testBit q = true ∨ (p.1 = 3 ∧ p.2.2.2.2 = s.2.2.2.2 ∧ (tld = false ∨ meetR R s.2.2.1.toNat p.2.1.toNat = true) ∧ (rowAt R p.2.2.1.toNat).testBit q = true)) := by
      unfold foundStep
      by_cases c1 : p.1 = 3 ∧ p.2.2.2.2 = s.2.2.2.2
      · rw [if_pos c1]
        by_cases c2 : tld = false ∨ meetR R s.2.2.1.toNat p.2.1.toNat = true
        · rw [if_pos c2, Nat.testBit_or, Bool.or_eq_true]
          exact ⟨fun h => h.imp id fun h => ⟨c1.1, c1.2, c2, h⟩, fun h => h.imp id fun h => h.2.2.2⟩
        · rw [if_neg c2]
          exact ⟨.inl, fun h => h.elim id fun h => absurd h.2.2.1 c2⟩
      · rw [if_neg c1]
        exact ⟨.inl, fun h => h.elim id fun h => absurd ⟨h.1, h.2.1⟩ c1⟩
    rw [hstep]
    constructor
    · rintro ((h | h) | ⟨p', hp', h⟩)
      · exact .inl h
      · exact .inr ⟨p, by simp, h⟩
      · exact .inr ⟨p', by simp [hp'], h⟩
    · rintro (h | ⟨p', hp', h⟩)
      · exact .inl (.inl h)
      · rcases List.mem_cons.1 hp' with rfl | hp'
        · exact .inl (.inr h)
        · exact .inr ⟨p', hp', h⟩

/-- The bits that a statement asks for, by the table. -/
def Asks (A : List St) (f : List UInt8) (T : Tb) (s : St) (o : Nat) : Prop :=
  (s.1 = 0 ∧ o = si s.2.2.2.1) ∨ (s.1 = 1 ∧ T (vi s.2.2.1) o = true) ∨
  (s.1 = 2 ∧ ∃ p ∈ A, p.1 = 3 ∧ p.2.2.2.2 = s.2.2.2.2 ∧ (told f s.2.2.2.2 = false ∨ ∃ q, q < 12 ∧ T (vi p.2.1) q = true ∧ T (vi s.2.2.1) q = true) ∧ T (vi p.2.2.1) o = true)
theorem tb_row {R : Rw} {c : UInt8} (h : vi c < 12) (h1 : 97 ≤ c.toNat) (o : Nat) : (rowAt R c.toNat).testBit o = tbOf R (vi c) o := by
  rw [rowAt_vi h h1]; simp [tbOf, h]
theorem asked_bit {A : List St} (hA : ∀ s ∈ A, Wf s) (f : List UInt8) {R : Rw} (hR : OkR R) {s : St} (hs : s ∈ A) (o : Nat) : (askedR A f R s).testBit o = true ↔ Asks A f (tbOf R) s o := by
  have hv := vOk_of_wf (hA s hs)
  unfold askedR Asks
  by_cases c0 : s.1 = 0
  · rw [if_pos c0, only_bit (hv.2.1 c0)]
    simp [c0, si]
  · rw [if_neg c0]
    have hy := hv.2.2 c0
    by_cases c1 : s.1 = 1
    · rw [if_pos c1, tb_row hy.1 hy.2]
      simp [c1]
    · rw [if_neg c1]
      by_cases c2 : s.1 = 2
      · rw [if_pos c2]
        unfold foundR
        rw [foldl_or_bit]
        simp only [Nat.zero_testBit, Bool.false_eq_true, false_or, c2, true_and, show ¬ (2 : Nat) = 0 from by decide, show ¬ (2 : Nat) = 1 from by decide, false_and]
        constructor
        · rintro ⟨p, hp, h1, h2, h3, h4⟩
          have hpv := vOk_of_wf (hA p hp)
          have hpy := hpv.2.2 (by omega)
          rw [tb_row hpy.1 hpy.2] at h4
          refine ⟨p, hp, h1, h2, h3.imp id fun h => ?_, h4⟩
          rw [meetR_eq hR hy.1 hy.2 hpv.1.1 hpv.1.2] at h
          obtain ⟨q, hq, q1, q2⟩ := (meet_iff _ _ _).1 h
          exact ⟨q, hq, q2, q1⟩
        · rintro ⟨p, hp, h1, h2, h3, h4⟩
          have hpv := vOk_of_wf (hA p hp)
          have hpy := hpv.2.2 (by omega)
          refine ⟨p, hp, h1, h2, h3.imp id fun ⟨q, hq, q1, q2⟩ => ?_, by rw [tb_row hpy.1 hpy.2]; exact h4⟩
          rw [meetR_eq hR hy.1 hy.2 hpv.1.1 hpv.1.2]
          exact (meet_iff _ _ _).2 ⟨q, hq, q2, q1⟩
      · rw [if_neg c2]
        simp [c0, c1, c2]
theorem obeys_iff_asks {A : List St} (hA : ∀ s ∈ A, Wf s) (f : List UInt8) (S : Tb) : Obeys A f S ↔ ∀ s ∈ A, ∀ o, o < 12 → Asks A f S s o → S (vi s.2.1) o = true := by
  constructor
  · intro h s hs o ho ha
    obtain ⟨o0, o1, o2⟩ := h s hs
    rcases ha with ⟨c, rfl⟩ | ⟨c, h1⟩ | ⟨c, p, hp, h1, h2, h3, h4⟩
    · exact o0 c
    · exact o1 c o ho h1
    · exact o2 c p hp h1 h2 h3 o ho h4
  · intro h s hs
    refine ⟨fun c => h s hs _ ?_ (.inl ⟨c, rfl⟩), fun c o ho h1 => h s hs o ho (.inr (.inl ⟨c, h1⟩)), fun c p hp h1 h2 h3 o ho h4 => h s hs o ho (.inr (.inr ⟨c, p, hp, h1, h2, h3, h4⟩))⟩
    have := (vOk_of_wf (hA s hs)).2.1 c
    unfold si; omega
theorem asks_mono {A : List St} {f : List UInt8} {T S : Tb} {s : St} {o : Nat} (h : Le T S) (ho : o < 12) (ha : Asks A f T s o) : Asks A f S s o := by
  rcases ha with h1 | ⟨c, h1⟩ | ⟨c, p, hp, h1, h2, h3, h4⟩
  · exact .inl h1
  · exact .inr (.inl ⟨c, h _ _ ho h1⟩)
  · exact .inr (.inr ⟨c, p, hp, h1, h2, h3.imp id fun ⟨q, hq, q1, q2⟩ => ⟨q, hq, h _ _ hq q1, h _ _ hq q2⟩, h _ _ ho h4⟩)

theorem stepR_le {A : List St} (hA : ∀ s ∈ A, Wf s) (f : List UInt8) (R : Rw) {s : St} (hs : s ∈ A) : Le (tbOf R) (tbOf (stepR A f R s)) := by
  intro v o _ h
  have hv := vOk_of_wf (hA s hs)
  unfold stepR
  rw [tb_plus hv.1.1 hv.1.2, h]; rfl
theorem stepR_up {A : List St} (hA : ∀ s ∈ A, Wf s) {f : List UInt8} {R : Rw} (hR : OkR R) {S : Tb} (hS : Obeys A f S) {s : St} (hs : s ∈ A) (h : Le (tbOf R) S) : Le (tbOf (stepR A f R s)) S := by
  intro v o ho h1
  have hv := vOk_of_wf (hA s hs)
  unfold stepR at h1
  rw [tb_plus hv.1.1 hv.1.2, Bool.or_eq_true, Bool.and_eq_true, beq_iff_eq] at h1
  rcases h1 with h1 | ⟨rfl, h1⟩
  · exact h v o ho h1
  · exact (obeys_iff_asks hA f S).1 hS s hs o ho (asks_mono h ho ((asked_bit hA f hR hs o).1 h1))
theorem foldR_le {A : List St} (hA : ∀ s ∈ A, Wf s) (f : List UInt8) : ∀ (l : List St) (R : Rw), (∀ s ∈ l, s ∈ A) → Le (tbOf R) (tbOf (l.foldl (stepR A f) R))
  | [], R, _ => Le.refl _
  | s :: l, R, h => (stepR_le hA f R (h s (by simp))).trans (foldR_le hA f l _ fun t ht => h t (by simp [ht]))
theorem foldR_up {A : List St} (hA : ∀ s ∈ A, Wf s) {f : List UInt8} {S : Tb} (hS : Obeys A f S) : ∀ (l : List St) (R : Rw), OkR R → (∀ s ∈ l, s ∈ A) → Le (tbOf R) S → Le (tbOf (l.foldl (stepR A f) R)) S
  | [], R, _, _, h => h
  | s :: l, R, hR, hl, h => foldR_up hA hS l _ (stepR_ok A f hR s) (fun t ht => hl t (by simp [ht])) (stepR_up hA hR hS (hl s (by simp)) h)
/-- Nothing more came: each step was obeyed. -/
theorem foldR_still {A : List St} (hA : ∀ s ∈ A, Wf s) {f : List UInt8} {S : Tb} : ∀ (l : List St) (R : Rw), OkR R → (∀ s ∈ l, s ∈ A) → Le S (tbOf R) → Le (tbOf (l.foldl (stepR A f) R)) S →
    ∀ s ∈ l, ∀ o, o < 12 → Asks A f S s o → S (vi s.2.1) o = true
  | [], _, _, _, _, _ => by simp
  | s :: l, R, hR, hl, h1, h2 => by
    intro t ht o ho ha
    have hv := vOk_of_wf (hA s (hl s (by simp)))
    rcases List.mem_cons.1 ht with rfl | ht
    · have hb := (asked_bit hA f hR (hl t (by simp)) o).2 (asks_mono h1 ho ha)
      have h3 : tbOf (stepR A f R t) (vi t.2.1) o = true := by
        unfold stepR
        rw [tb_plus hv.1.1 hv.1.2, hb]; simp
      exact h2 _ _ ho (foldR_le hA f l _ (fun u hu => hl u (by simp [hu])) _ _ ho h3)
    · exact foldR_still hA l _ (stepR_ok A f hR s) (fun u hu => hl u (by simp [hu])) (h1.trans (stepR_le hA f R (hl s (by simp)))) h2 t ht o ho ha

def zeroR : Rw := fun _ => 0
def SameR (R Q : Rw) : Prop := ∀ v, v < 12 → R v = Q v
theorem tb_same {R Q : Rw} (h : SameR R Q) : Le (tbOf R) (tbOf Q) := by
  intro v o _ h1
  unfold tbOf at *
  by_cases hv : v < 12
  · rw [← h v hv]; exact h1
  · simp [hv] at h1
theorem gains_of_ne {R Q : Rw} (hR : OkR R) (hQ : OkR Q) (hle : Le (tbOf R) (tbOf Q)) (h : ¬ SameR R Q) : Gains (tbOf R) (tbOf Q) := by
  apply Classical.byContradiction
  intro hg
  apply h
  intro v hv
  apply Nat.eq_of_testBit_eq
  intro o
  cases e1 : (R v).testBit o with
  | true =>
    have := hle v o (bit_lt (hR v hv) e1) (by simp [tbOf, hv, e1])
    simp [tbOf, hv] at this
    exact this.symm
  | false =>
    cases e2 : (Q v).testBit o with
    | false => rfl
    | true => exact absurd ⟨v, o, hv, bit_lt (hQ v hv) e2, by simp [tbOf, hv, e2], by simp [tbOf, e1]⟩ hg
/-- What holds at the head of each round of leastTable. -/
def GoR (A : List St) (f : List UInt8) (R : Rw) : Prop := OkR R ∧ ∀ S, Obeys A f S → Le (tbOf R) S
theorem goR_zero (A : List St) (f : List UInt8) : GoR A f zeroR := ⟨fun _ _ => by show 0 < 4096; decide, fun _ _ v o _ h => by simp [tbOf, zeroR] at h⟩
theorem goR_succ {A : List St} (hA : ∀ s ∈ A, Wf s) {f : List UInt8} {R : Rw} (h : GoR A f R) : GoR A f (roundR A f R) := ⟨foldR_ok A f A h.1, fun S hS => foldR_up hA hS A R h.1 (fun _ h => h) (h.2 S hS)⟩
theorem goR_more {A : List St} (hA : ∀ s ∈ A, Wf s) {f : List UInt8} {R : Rw} (h : GoR A f R) (hn : ¬ SameR (roundR A f R) R) : cnt (tbOf R) < cnt (tbOf (roundR A f R)) := by
  have hle := foldR_le hA f A R (fun _ h => h)
  refine cnt_gain hle (gains_of_ne h.1 (goR_succ hA h).1 hle fun hs => hn fun v hv => (hs v hv).symm)
theorem goR_end {A : List St} (hA : ∀ s ∈ A, Wf s) {f : List UInt8} {R : Rw} (h : GoR A f R) (hs : SameR (roundR A f R) R) : IsLeast A f (tbOf R) :=
  ⟨(obeys_iff_asks hA f _).2 (foldR_still hA A R h.1 (fun _ h => h) (Le.refl _) (tb_same hs)), h.2⟩
theorem isLeast_same {A : List St} {f : List UInt8} {R Q : Rw} (hA : ∀ s ∈ A, Wf s) (h : IsLeast A f (tbOf R)) (hs : SameR R Q) : IsLeast A f (tbOf Q) :=
  ⟨obeys_congr (varsOk_of_wf hA) (tb_same hs) (tb_same fun v hv => (hs v hv).symm) h.1, fun S hS => (tb_same fun v hv => (hs v hv).symm).trans (h.2 S hS)⟩
end Go.Proofs.Ytmjlcajcobbcgab.Al

namespace Go.Proofs.Ytmjlcajcobbcgab
open Go.RowKit

theorem hid {p : Prop} (h : p) : Hid p := h

/-- 'out = append(out, x)', x boxed in a new block: the slice owns one element more; below the base nothing has turned. -/
theorem append_new {P : Program} {ops : Array Oper} {rest : List Oper} {o : Oper} {a : Act} {Q : Exit → Act → World → Prop} {w0 wb : World} (hgd : o.guard = none) (s x : Operand) (t : TypeId)
    (ho : o.op = .call { callee := .builtin .append, args := #[s, x], argTypes := #[t, t] })
    (base : Nat) (e : TypeId) (i : TypeInfo) (z : Value) (size bytes : Nat) (ht : P.underlying t = some (.slice e)) (hi : P.info? e = some i) (hz : i.zero = some z)
    (hsize : i.size = size) (hby : i.bytes = bytes) (hzs : z.cells.size = size) (hsz : 0 < size)
    (v : Value) (n : Nat) (xs : List Value) (hs : a.eval s = v) (hown : wb.ownsRow base e size v n xs) (cur : Array Value) (hcur : cur.size = size) (h1 : ∀ u ∈ cur.toList, u.oneCell' = true)
    (hx : a.eval x = .slice (some ⟨wb.heap.size, 0, none⟩) 1 1) (hn : n + 1 ≤ 2000000) (hb : bytes ≤ 1000) (hbase : base ≤ wb.heap.size) (hbel : Below base w0 wb)
    (h : ∀ v' w', w'.ownsRow base e size v' (n + 1) (xs ++ cur.toList) → Below base w0 w' → wpList P ops Q rest (a.put o.dst v') w') : wpList P ops Q (o :: rest) a (wb.alloc (.cells cur e)) := by
  refine wpList_append_own _ hgd s x t ho base e i z size bytes ht hi hz hsize hby hzs hsz v n xs hs (hown.alloc _) ⟨wb.heap.size, 0, none⟩ 1 1 cur.toList hx (by simpa using hcur) ?_ h1 ?_ ?_ ?_ ?_
  · intro j u hj
    have hadd : (⟨wb.heap.size, 0, none⟩ : Addr).add j = ⟨wb.heap.size, j, none⟩ := by unfold Addr.add; split <;> simp_all
    rw [hadd, cell_of_row (wb.alloc (.cells cur e)) wb.heap.size j cur e (0, 0) (heap_alloc_new wb _)]
    simpa using hj
  · simp only [maxLen]; omega
  · exact Nat.le_trans (Nat.mul_le_mul hn hb) (by decide)
  · simp; omega
  · intro v' w' h2 h3 _
    refine h v' w' h2 ((hbel.alloc hbase _).grown h3 (by simp; omega) ?_)
    intro k hk
    exact (hown.lt k hk).1

theorem heap2 (w : World) (O C : Obj) : ((w.alloc O).alloc C).heap[w.heap.size + 1]? = some C := by
  have := heap_alloc_new (w.alloc O) C
  rwa [World.size_alloc] at this
/-- The same, the new element's block g anywhere in the world. -/
theorem append_at {P : Program} {ops : Array Oper} {rest : List Oper} {o : Oper} {a : Act} {Q : Exit → Act → World → Prop} {w0 wx : World} (hgd : o.guard = none) (s x : Operand) (t : TypeId)
    (ho : o.op = .call { callee := .builtin .append, args := #[s, x], argTypes := #[t, t] })
    (base : Nat) (e : TypeId) (i : TypeInfo) (z : Value) (size bytes : Nat) (ht : P.underlying t = some (.slice e)) (hi : P.info? e = some i) (hz : i.zero = some z)
    (hsize : i.size = size) (hby : i.bytes = bytes) (hzs : z.cells.size = size) (hsz : 0 < size)
    (v : Value) (n : Nat) (xs : List Value) (hs : a.eval s = v) (hown : wx.ownsRow base e size v n xs) (g : Nat) (cur : Array Value) (hg : wx.heap[g]? = some (.cells cur e (0, 0))) (hcur : cur.size = size) (h1 : ∀ u ∈ cur.toList, u.oneCell' = true)
    (hx : a.eval x = .slice (some ⟨g, 0, none⟩) 1 1) (hn : n + 1 ≤ 2000000) (hb : bytes ≤ 1000) (hbase : base ≤ wx.heap.size) (hbel : Below base w0 wx)
    (h : ∀ v' w', w'.ownsRow base e size v' (n + 1) (xs ++ cur.toList) → Below base w0 w' → wpList P ops Q rest (a.put o.dst v') w') : wpList P ops Q (o :: rest) a wx := by
  refine wpList_append_own _ hgd s x t ho base e i z size bytes ht hi hz hsize hby hzs hsz v n xs hs hown ⟨g, 0, none⟩ 1 1 cur.toList hx (by simpa using hcur) ?_ h1 ?_ ?_ ?_ ?_
  · intro j u hj
    have hadd : (⟨g, 0, none⟩ : Addr).add j = ⟨g, j, none⟩ := by unfold Addr.add; split <;> simp_all
    rw [hadd, cell_of_row wx g j cur e (0, 0) hg]
    simpa using hj
  · simp only [maxLen]; omega
  · exact Nat.le_trans (Nat.mul_le_mul hn hb) (by decide)
  · exact hbase
  · intro v' w' h2 h3 _
    refine h v' w' h2 (hbel.grown h3 hbase ?_)
    intro k hk
    exact (hown.lt k hk).1
theorem block_setCell {w : World} {b j : Nat} {cur : Array Value} {t : TypeId} (v : Value) (h : w.heap[b]? = some (.cells cur t (0, 0))) : (w.setCell ⟨b, j, none⟩ v).heap[b]? = some (.cells (cur.setIfInBounds j v) t (0, 0)) := by
  have hlt : b < w.heap.size := (Array.getElem?_eq_some_iff.1 h).1
  have h' : w.heap[b] = .cells cur t (0, 0) := by simpa [Array.getElem?_eq_getElem hlt] using h
  show (w.heap.modify b _)[b]? = _
  rw [Array.getElem?_eq_getElem (by simpa using hlt), Array.getElem_modify_self, h']
  rfl
theorem block_cell {w : World} {b j : Nat} {cur : Array Value} {t : TypeId} (h : w.heap[b]? = some (.cells cur t (0, 0))) : w.cell? ⟨b, j, none⟩ = cur[j]? := cell_of_row w b j cur t (0, 0) h
theorem block_free {w : World} {b j : Nat} {cur : Array Value} {t : TypeId} (h : w.heap[b]? = some (.cells cur t (0, 0))) : w.frozen? ⟨b, j, none⟩ = false := by simp [World.frozen?, h]

theorem below_of_grown {B b : Nat} {w0 w w' : World} (h : Below B w0 w) (hg : w.grownBy w' (some b)) (hB : B ≤ w.heap.size) (hb : B ≤ b) : Below B w0 w' := h.grown hg hB (fun k e => by simp at e; omega)
theorem cell_below {w w' : World} {B b o : Nat} {v : Value} (hb : Below B w w') (h : w.cell? ⟨b, o, none⟩ = some v) (hlt : b < B) : w'.cell? ⟨b, o, none⟩ = some v := (hb.cell (p := ⟨b, o, none⟩) hlt).trans h
end Go.Proofs.Ytmjlcajcobbcgab
