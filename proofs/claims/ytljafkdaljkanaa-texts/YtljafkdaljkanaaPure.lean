import GoSem.Op.String
namespace Go.Proofs.Ytljafkdaljkanaa.Al

/-! What the texts are: bytes as lists; the document's reader and the program's reader; they come to the same. -/

def vB (c : Nat) : Bool := decide (97 ≤ c) && decide (c ≤ 108)
def oB (c : Nat) : Bool := decide (65 ≤ c) && decide (c ≤ 76)
def fB (c : Nat) : Bool := decide (48 ≤ c) && decide (c ≤ 53)

def bt (l : List UInt8) (i : Nat) : Nat := (l.getD i 0).toNat

def refStmt (l : List UInt8) (i : Nat) : Nat × Bool :=
  if vB (bt l i) = true then
    if bt l (i + 1) = 46 then
      if fB (bt l (i + 2)) = true then
        if bt l (i + 3) = 61 then
          if vB (bt l (i + 4)) = true then
            if bt l (i + 5) = 59 then (i + 6, true) else (i + 5, false)
          else (i + 4, false)
        else (i + 3, false)
      else (i + 2, false)
    else if bt l (i + 1) = 61 then
      if bt l (i + 2) = 64 then
        if oB (bt l (i + 3)) = true then
          if bt l (i + 4) = 59 then (i + 5, true) else (i + 4, false)
        else (i + 3, false)
      else if vB (bt l (i + 2)) = true then
        if bt l (i + 3) = 46 then
          if fB (bt l (i + 4)) = true then
            if bt l (i + 5) = 59 then (i + 6, true) else (i + 5, false)
          else (i + 4, false)
        else if bt l (i + 3) = 59 then (i + 4, true) else (i + 3, false)
      else (i + 2, false)
    else (i + 1, false)
  else (i, false)

def shp (k : Nat) : List UInt8 :=
  if k = 0 then [120, 61, 64, 111, 59] else if k = 1 then [120, 61, 121, 59] else if k = 2 then [120, 61, 121, 46, 102, 59] else [120, 46, 102, 61, 121, 59]

def fitB (m b : Nat) : Bool :=
  if m = 120 ∨ m = 121 then vB b else if m = 111 then oB b else if m = 102 then fB b else b == m

def fitN : List UInt8 → List UInt8 → Nat
  | m :: ms, b :: bs => if fitB m.toNat b.toNat = true then fitN ms bs + 1 else 0
  | _, _ => 0

theorem fitN_le_right : ∀ (ms u : List UInt8), fitN ms u ≤ u.length
  | [], _ => by simp [fitN]
  | _ :: _, [] => by simp [fitN]
  | m :: ms, b :: bs => by
    have := fitN_le_right ms bs
    simp only [fitN]; split <;> simp; omega

theorem fitN_le_left : ∀ (ms u : List UInt8), fitN ms u ≤ ms.length
  | [], _ => by simp [fitN]
  | _ :: _, [] => by simp [fitN]
  | m :: ms, b :: bs => by
    have := fitN_le_left ms bs
    simp only [fitN]; split <;> simp; omega

theorem fitB_zero (m : Nat) (h : m ≠ 0) : fitB m 0 = false := by
  unfold fitB; split
  · decide
  · split
    · decide
    · split
      · decide
      · simp; omega

theorem fitN_cons (m : UInt8) (ms u : List UInt8) (h : m.toNat ≠ 0) : fitN (m :: ms) u = if fitB m.toNat (bt u 0) = true then fitN ms (u.drop 1) + 1 else 0 := by
  cases u with
  | nil => simp [fitN, bt, fitB_zero m.toNat h]
  | cons b bs => simp [fitN, bt]

theorem bt_drop (u : List UInt8) (i j : Nat) : bt (u.drop i) j = bt u (i + j) := by simp [bt]

theorem fitN_nil (u : List UInt8) : fitN [] u = 0 := by simp [fitN]

theorem fit0 (u : List UInt8) : fitN (shp 0) u =
    if vB (bt u 0) = true then if bt u 1 = 61 then if bt u 2 = 64 then if oB (bt u 3) = true then if bt u 4 = 59 then 5 else 4 else 3 else 2 else 1 else 0 := by
  simp only [shp, if_true]
  rw [fitN_cons _ _ _ (by decide), fitN_cons _ _ _ (by decide), fitN_cons _ _ _ (by decide), fitN_cons _ _ _ (by decide), fitN_cons _ _ _ (by decide), fitN_nil]
  simp only [List.drop_drop, bt_drop, fitB]
  simp
  repeat' (first | rfl | split)
theorem fit1 (u : List UInt8) : fitN (shp 1) u =
    if vB (bt u 0) = true then if bt u 1 = 61 then if vB (bt u 2) = true then if bt u 3 = 59 then 4 else 3 else 2 else 1 else 0 := by
  have e : shp 1 = [120, 61, 121, 59] := by decide
  rw [e, fitN_cons _ _ _ (by decide), fitN_cons _ _ _ (by decide), fitN_cons _ _ _ (by decide), fitN_cons _ _ _ (by decide), fitN_nil]
  simp only [List.drop_drop, bt_drop, fitB]
  simp
  repeat' (first | rfl | split)
theorem fit2 (u : List UInt8) : fitN (shp 2) u =
    if vB (bt u 0) = true then if bt u 1 = 61 then if vB (bt u 2) = true then if bt u 3 = 46 then if fB (bt u 4) = true then if bt u 5 = 59 then 6 else 5 else 4 else 3 else 2 else 1 else 0 := by
  have e : shp 2 = [120, 61, 121, 46, 102, 59] := by decide
  rw [e, fitN_cons _ _ _ (by decide), fitN_cons _ _ _ (by decide), fitN_cons _ _ _ (by decide), fitN_cons _ _ _ (by decide), fitN_cons _ _ _ (by decide), fitN_cons _ _ _ (by decide), fitN_nil]
  simp only [List.drop_drop, bt_drop, fitB]
  simp
  repeat' (first | rfl | split)
theorem fit3 (u : List UInt8) : fitN (shp 3) u =
    if vB (bt u 0) = true then if bt u 1 = 46 then if fB (bt u 2) = true then if bt u 3 = 61 then if vB (bt u 4) = true then if bt u 5 = 59 then 6 else 5 else 4 else 3 else 2 else 1 else 0 := by
  have e : shp 3 = [120, 46, 102, 61, 121, 59] := by decide
  rw [e, fitN_cons _ _ _ (by decide), fitN_cons _ _ _ (by decide), fitN_cons _ _ _ (by decide), fitN_cons _ _ _ (by decide), fitN_cons _ _ _ (by decide), fitN_cons _ _ _ (by decide), fitN_nil]
  simp only [List.drop_drop, bt_drop, fitB]
  simp
  repeat' (first | rfl | split)

/-- The furthest of the first k shapes. -/
def fur (u : List UInt8) : Nat → Nat
  | 0 => 0
  | k + 1 => if fur u k < fitN (shp k) u then fitN (shp k) u else fur u k

/-- The program's reader: the kind of the first shape that fits whole, or 4. -/
def kindOf (u : List UInt8) : Nat :=
  if fitN (shp 0) u = 5 then 0 else if fitN (shp 1) u = 4 then 1 else if fitN (shp 2) u = 6 then 2 else if fitN (shp 3) u = 6 then 3 else 4

def shpLen (k : Nat) : Nat := if k = 0 then 5 else if k = 1 then 4 else 6
theorem shp_length (k : Nat) : (shp k).length = shpLen k := by unfold shp shpLen; split; rfl; split; rfl; split <;> rfl

theorem vB_64 : vB 64 = false := by decide
theorem read_same (l : List UInt8) (i : Nat) :
    refStmt l i = if kindOf (l.drop i) < 4 then (i + shpLen (kindOf (l.drop i)), true) else (i + fur (l.drop i) 4, false) := by
  have h := bt_drop l i
  unfold kindOf
  simp only [fur, fit0, fit1, fit2, fit3, h, Nat.add_zero]
  unfold refStmt
  generalize bt l i = b0
  generalize bt l (i + 1) = b1
  generalize bt l (i + 2) = b2
  generalize bt l (i + 3) = b3
  generalize bt l (i + 4) = b4
  generalize bt l (i + 5) = b5
  by_cases c0 : vB b0 = true
  · by_cases c1 : b1 = 46
    · subst c1
      by_cases c2 : fB b2 = true <;> by_cases c3 : b3 = 61 <;> by_cases c4 : vB b4 = true <;> by_cases c5 : b5 = 59 <;> simp [c0, c2, c3, c4, c5, shpLen]
    · by_cases c1' : b1 = 61
      · subst c1'
        by_cases c2 : b2 = 64
        · subst c2
          by_cases c3 : oB b3 = true <;> by_cases c4 : b4 = 59 <;> simp [c0, c3, c4, shpLen, vB_64]
        · by_cases c2' : vB b2 = true
          · by_cases c3 : b3 = 46
            · subst c3
              by_cases c4 : fB b4 = true <;> by_cases c5 : b5 = 59 <;> simp [c0, c2, c2', c4, c5, shpLen]
            · by_cases c3' : b3 = 59 <;> simp [c0, c2, c2', c3, c3', shpLen]
          · simp [c0, c2, c2']
      · simp [c0, c1, c1']
  · simp [c0]

/-! A statement: kind, x, y, o, f. -/
abbrev St := Nat × UInt8 × UInt8 × UInt8 × UInt8
def byteAt (s : St) (m : UInt8) : UInt8 := if m = 120 then s.2.1 else if m = 121 then s.2.2.1 else if m = 111 then s.2.2.2.1 else if m = 102 then s.2.2.2.2 else m
def txt (s : St) : List UInt8 := (shp s.1).map (byteAt s)
def fillStep (m c : UInt8) (s : St) : St :=
  if m = 120 then (s.1, c, s.2.2) else if m = 121 then (s.1, s.2.1, c, s.2.2.2) else if m = 111 then (s.1, s.2.1, s.2.2.1, c, s.2.2.2.2) else if m = 102 then (s.1, s.2.1, s.2.2.1, s.2.2.2.1, c) else s
def fillSt : List UInt8 → List UInt8 → St → St
  | m :: ms, c :: cs, s => fillSt ms cs (fillStep m c s)
  | _, _, s => s
def mkSt (k : Nat) (u : List UInt8) : St := fillSt (shp k) u (k, 0, 0, 0, 0)

def Wf (s : St) : Prop :=
  vB s.2.1.toNat = true ∧ ((s.1 = 0 ∧ s.2.2.1 = 0 ∧ oB s.2.2.2.1.toNat = true ∧ s.2.2.2.2 = 0) ∨ (s.1 = 1 ∧ vB s.2.2.1.toNat = true ∧ s.2.2.2.1 = 0 ∧ s.2.2.2.2 = 0) ∨
    ((s.1 = 2 ∨ s.1 = 3) ∧ vB s.2.2.1.toNat = true ∧ s.2.2.2.1 = 0 ∧ fB s.2.2.2.2.toNat = true))

theorem u8_of {c : UInt8} {n : Nat} (h : c.toNat = n) (hn : n < 256) : c = UInt8.ofNat n := by
  apply UInt8.toNat_inj.1; rw [h]; simp; omega

theorem bt_cons0 (a : UInt8) (u : List UInt8) : bt (a :: u) 0 = a.toNat := by simp [bt]
theorem bt_cons (a : UInt8) (u : List UInt8) (j : Nat) : bt (a :: u) (j + 1) = bt u j := by simp [bt]

theorem ite_eq_lt {p : Prop} [Decidable p] {a b n : Nat} (h : (if p then a else b) = n) (hb : b < n) : p ∧ a = n := by
  split at h
  · exact ⟨‹p›, h⟩
  · omega

theorem mk_ok (u : List UInt8) (h : kindOf u < 4) : Wf (mkSt (kindOf u) u) ∧ txt (mkSt (kindOf u) u) = u.take (shpLen (kindOf u)) ∧ shpLen (kindOf u) ≤ u.length ∧ (mkSt (kindOf u) u).1 = kindOf u := by
  unfold kindOf at *
  split at h
  · rename_i e; rw [if_pos e]
    have hl := fitN_le_right (shp 0) u
    rw [e] at hl
    rw [fit0] at e
    match u, hl with
    | c0 :: c1 :: c2 :: c3 :: c4 :: r, _ =>
      simp only [bt, List.getD_cons_zero, List.getD_cons_succ] at e
      obtain ⟨h0, e⟩ := ite_eq_lt e (by decide)
      obtain ⟨h1, e⟩ := ite_eq_lt e (by decide)
      obtain ⟨h2, e⟩ := ite_eq_lt e (by decide)
      obtain ⟨h3, e⟩ := ite_eq_lt e (by decide)
      obtain ⟨h4, e⟩ := ite_eq_lt e (by decide)
      have g1 : c1 = 61 := u8_of h1 (by decide)
      have g2 : c2 = 64 := u8_of h2 (by decide)
      have g4 : c4 = 59 := u8_of h4 (by decide)
      subst g1 g2 g4
      simp [mkSt, shp, fillSt, fillStep, Wf, txt, byteAt, shpLen, h0, h3]
  · rename_i e0; rw [if_neg e0]
    split at h
    · rename_i e; rw [if_pos e]
      have hl := fitN_le_right (shp 1) u
      rw [e] at hl
      rw [fit1] at e
      match u, hl with
      | c0 :: c1 :: c2 :: c3 :: r, _ =>
        simp only [bt, List.getD_cons_zero, List.getD_cons_succ] at e
        obtain ⟨h0, e⟩ := ite_eq_lt e (by decide)
        obtain ⟨h1, e⟩ := ite_eq_lt e (by decide)
        obtain ⟨h2, e⟩ := ite_eq_lt e (by decide)
        obtain ⟨h3, e⟩ := ite_eq_lt e (by decide)
        have g1 : c1 = 61 := u8_of h1 (by decide)
        have g3 : c3 = 59 := u8_of h3 (by decide)
        subst g1 g3
        simp [mkSt, shp, fillSt, fillStep, Wf, txt, byteAt, shpLen, h0, h2]
    · rename_i e1; rw [if_neg e1]
      split at h
      · rename_i e; rw [if_pos e]
        have hl := fitN_le_right (shp 2) u
        rw [e] at hl
        rw [fit2] at e
        match u, hl with
        | c0 :: c1 :: c2 :: c3 :: c4 :: c5 :: r, _ =>
          simp only [bt, List.getD_cons_zero, List.getD_cons_succ] at e
          obtain ⟨h0, e⟩ := ite_eq_lt e (by decide)
          obtain ⟨h1, e⟩ := ite_eq_lt e (by decide)
          obtain ⟨h2, e⟩ := ite_eq_lt e (by decide)
          obtain ⟨h3, e⟩ := ite_eq_lt e (by decide)
          obtain ⟨h4, e⟩ := ite_eq_lt e (by decide)
          obtain ⟨h5, e⟩ := ite_eq_lt e (by decide)
          have g1 : c1 = 61 := u8_of h1 (by decide)
          have g3 : c3 = 46 := u8_of h3 (by decide)
          have g5 : c5 = 59 := u8_of h5 (by decide)
          subst g1 g3 g5
          simp [mkSt, shp, fillSt, fillStep, Wf, txt, byteAt, shpLen, h0, h2, h4]
      · rename_i e2; rw [if_neg e2]
        split at h
        · rename_i e; rw [if_pos e]
          have hl := fitN_le_right (shp 3) u
          rw [e] at hl
          rw [fit3] at e
          match u, hl with
          | c0 :: c1 :: c2 :: c3 :: c4 :: c5 :: r, _ =>
            simp only [bt, List.getD_cons_zero, List.getD_cons_succ] at e
            obtain ⟨h0, e⟩ := ite_eq_lt e (by decide)
            obtain ⟨h1, e⟩ := ite_eq_lt e (by decide)
            obtain ⟨h2, e⟩ := ite_eq_lt e (by decide)
            obtain ⟨h3, e⟩ := ite_eq_lt e (by decide)
            obtain ⟨h4, e⟩ := ite_eq_lt e (by decide)
            obtain ⟨h5, e⟩ := ite_eq_lt e (by decide)
            have g1 : c1 = 46 := u8_of h1 (by decide)
            have g3 : c3 = 61 := u8_of h3 (by decide)
            have g5 : c5 = 59 := u8_of h5 (by decide)
            subst g1 g3 g5
            simp [mkSt, shp, fillSt, fillStep, Wf, txt, byteAt, shpLen, h0, h2, h4]
        · omega

theorem txt_inj {s t : St} (hs : Wf s) (ht : Wf t) (h : txt s = txt t) : s = t := by
  obtain ⟨k, x, y, o, f⟩ := s
  obtain ⟨k', x', y', o', f'⟩ := t
  simp only [Wf] at hs ht
  rcases hs with ⟨_, ⟨rfl, rfl, _, rfl⟩ | ⟨rfl, _, rfl, rfl⟩ | ⟨rfl | rfl, _, rfl, _⟩⟩ <;>
  rcases ht with ⟨_, ⟨rfl, rfl, _, rfl⟩ | ⟨rfl, _, rfl, rfl⟩ | ⟨rfl | rfl, _, rfl, _⟩⟩ <;>
  simp [txt, shp, byteAt] at h <;> simp_all

theorem txt_len (s : St) (h : Wf s) : 4 ≤ (txt s).length ∧ (txt s).length ≤ 6 := by
  obtain ⟨k, x, y, o, f⟩ := s
  simp only [txt, List.length_map, shp_length, shpLen]
  split
  · omega
  · split <;> omega

/-! The order of texts. -/
abbrev lt (a b : List UInt8) : Bool := Op.bytesLess a b
theorem lt_irrefl : ∀ a, lt a a = false
  | [] => rfl
  | a :: x => by simp [lt, Op.bytesLess]; exact lt_irrefl x
theorem lt_trans : ∀ {a b c}, lt a b = true → lt b c = true → lt a c = true
  | [], _ :: _, [], _, h => by simp [lt, Op.bytesLess] at h
  | [], _ :: _, _ :: _, _, _ => by simp [lt, Op.bytesLess]
  | _, [], _, h, _ => by simp [lt, Op.bytesLess] at h
  | _ :: _, _ :: _, [], _, h => by simp [lt, Op.bytesLess] at h
  | a :: x, b :: y, c :: z, h1, h2 => by
    simp only [lt, Op.bytesLess, Bool.or_eq_true, Bool.and_eq_true, decide_eq_true_eq, beq_iff_eq] at *
    rcases h1 with h1 | ⟨rfl, h1⟩
    · rcases h2 with h2 | ⟨rfl, h2⟩
      · exact .inl (UInt8.lt_trans h1 h2)
      · exact .inl h1
    · rcases h2 with h2 | ⟨rfl, h2⟩
      · exact .inl h2
      · exact .inr ⟨rfl, lt_trans h1 h2⟩
theorem lt_total : ∀ {a b}, a ≠ b → lt a b = false → lt b a = true
  | [], [], h, _ => absurd rfl h
  | [], _ :: _, _, h => by simp [lt, Op.bytesLess] at h
  | _ :: _, [], _, _ => by simp [lt, Op.bytesLess]
  | a :: x, b :: y, hn, h => by
    simp only [lt, Op.bytesLess, Bool.or_eq_false_iff, Bool.and_eq_false_iff, decide_eq_false_iff_not, beq_eq_false_iff_ne, Bool.or_eq_true, Bool.and_eq_true, decide_eq_true_eq, beq_iff_eq] at *
    obtain ⟨h1, h2⟩ := h
    by_cases e : a = b
    · subst e
      exact .inr ⟨rfl, lt_total (fun e => hn (by rw [e])) (by simpa using h2)⟩
    · left
      rcases UInt8.lt_or_lt_of_ne e with h' | h'
      · exact absurd h' h1
      · exact h'
theorem lt_asymm {a b} (h : lt a b = true) : lt b a = false := by
  cases e : lt b a with
  | false => rfl
  | true => have := lt_trans h e; rw [lt_irrefl] at this; exact this.symm

def Sorted (R : List (List UInt8)) : Prop := R.Pairwise (fun a b => lt a b = true)

/-- The document's insertion. -/
def insGo (t : List UInt8) : Bool → List (List UInt8) → List (List UInt8)
  | d, [] => if d = true then [] else [t]
  | d, r :: rs => if d = false ∧ lt t r = true then t :: r :: insGo t true rs else r :: insGo t d rs
def has (R : List (List UInt8)) (t : List UInt8) : Bool := R.any (fun r => r == t)
def refWith (R : List (List UInt8)) (t : List UInt8) : List (List UInt8) := insGo t (has R t) R
/-- The program's. -/
def withT (R : List (List UInt8)) (t : List UInt8) : List (List UInt8) := R.filter (fun r => lt r t) ++ t :: R.filter (fun r => lt t r)

theorem insGo_true (t : List UInt8) : ∀ R, insGo t true R = R
  | [] => rfl
  | r :: rs => by simp [insGo, insGo_true t rs]

theorem filter_gt_nil {t : List UInt8} : ∀ {R : List (List UInt8)}, (∀ r ∈ R, lt t r = true) → R.filter (fun r => lt r t) = [] ∧ R.filter (fun r => lt t r) = R := by
  intro R h
  refine ⟨List.filter_eq_nil_iff.2 fun r hr => by simp [lt_asymm (h r hr)], List.filter_eq_self.2 h⟩

theorem insGo_false (t : List UInt8) : ∀ R, Sorted R → t ∉ R → insGo t false R = withT R t
  | [], _, _ => by simp [insGo, withT]
  | r :: rs, hs, hn => by
    obtain ⟨h1, h2⟩ := List.pairwise_cons.1 hs
    have hne : t ≠ r := fun e => hn (by simp [e])
    by_cases h : lt t r = true
    · have := filter_gt_nil (t := t) (R := rs) (fun q hq => lt_trans h (h1 q hq))
      simp only [insGo, h, and_self, if_true, insGo_true, withT, List.filter_cons, lt_asymm h, this.1, this.2]
      simp
    · have h' : lt t r = false := by simpa using h
      have hr : lt r t = true := lt_total hne h'
      have ih := insGo_false t rs h2 (fun e => hn (by simp [e]))
      simp [insGo, h', ih, withT, hr]

theorem withT_mem (t : List UInt8) : ∀ R, Sorted R → t ∈ R → withT R t = R
  | [], _, h => by simp at h
  | r :: rs, hs, h => by
    obtain ⟨h1, h2⟩ := List.pairwise_cons.1 hs
    rcases List.mem_cons.1 h with rfl | h
    · have := filter_gt_nil (t := t) (R := rs) h1
      simp [withT, lt_irrefl, this.1, this.2]
    · have hr := h1 t h
      have ih := withT_mem t rs h2 h
      simp only [withT] at ih ⊢
      simp [hr, lt_asymm hr, ih]

theorem has_iff (R : List (List UInt8)) (t : List UInt8) : has R t = true ↔ t ∈ R := by simp [has]

theorem refWith_eq (R : List (List UInt8)) (t : List UInt8) (hs : Sorted R) : refWith R t = withT R t := by
  unfold refWith
  cases e : has R t with
  | true => rw [insGo_true, withT_mem t R hs ((has_iff _ _).1 e)]
  | false => exact insGo_false t R hs (fun h => by rw [(has_iff _ _).2 h] at e; cases e)

theorem withT_sorted (R : List (List UInt8)) (t : List UInt8) (hs : Sorted R) : Sorted (withT R t) := by
  unfold withT Sorted
  rw [List.pairwise_append]
  refine ⟨List.Pairwise.filter _ hs, ?_, ?_⟩
  · rw [List.pairwise_cons]
    exact ⟨fun a ha => (List.mem_filter.1 ha).2, List.Pairwise.filter _ hs⟩
  · intro a ha b hb
    have h1 := (List.mem_filter.1 ha).2
    rcases List.mem_cons.1 hb with rfl | hb
    · exact h1
    · exact lt_trans h1 (List.mem_filter.1 hb).2

/-! The program's list of statements. -/
def withP (A : List St) (s : St) : List St := A.filter (fun a => lt (txt a) (txt s)) ++ s :: A.filter (fun a => lt (txt s) (txt a))
def dropP (A : List St) (s : St) : List St := A.filter (fun a => !(a == s))
def Good (A : List St) : Prop := (∀ a ∈ A, Wf a) ∧ Sorted (A.map txt)

theorem good_nil : Good [] := ⟨by simp, List.Pairwise.nil⟩
theorem withP_txt (A : List St) (s : St) : (withP A s).map txt = withT (A.map txt) (txt s) := by
  simp [withP, withT, List.filter_map, Function.comp_def]
theorem withP_good {A : List St} {s : St} (h : Good A) (hs : Wf s) : Good (withP A s) := by
  refine ⟨fun a ha => ?_, by rw [withP_txt]; exact withT_sorted _ _ h.2⟩
  simp only [withP, List.mem_append, List.mem_cons, List.mem_filter] at ha
  rcases ha with ha | rfl | ha
  · exact h.1 a ha.1
  · exact hs
  · exact h.1 a ha.1
theorem dropP_txt {A : List St} {s : St} (h : ∀ a ∈ A, Wf a) (hs : Wf s) : (dropP A s).map txt = (A.map txt).filter (fun r => !(r == txt s)) := by
  induction A with
  | nil => rfl
  | cons a A ih =>
    have iha := ih (fun b hb => h b (by simp [hb]))
    simp only [dropP] at iha
    by_cases e : a = s
    · subst e; simp [dropP, iha]
    · have : txt a ≠ txt s := fun c => e (txt_inj (h a (by simp)) hs c)
      simp [dropP, e, this, iha]
theorem dropP_good {A : List St} {s : St} (h : Good A) : Good (dropP A s) := by
  refine ⟨fun a ha => h.1 a (List.mem_filter.1 ha).1, ?_⟩
  exact List.Pairwise.sublist (List.Sublist.map txt List.filter_sublist) h.2
theorem dropP_len {A : List St} {s : St} (h : ∀ a ∈ A, Wf a) (hs : Wf s) : ((dropP A s).length = A.length) ↔ has (A.map txt) (txt s) = false := by
  have hm : has (A.map txt) (txt s) = true ↔ s ∈ A := by
    rw [has_iff, List.mem_map]
    exact ⟨fun ⟨a, ha, e⟩ => txt_inj (h a ha) hs e ▸ ha, fun ha => ⟨s, ha, rfl⟩⟩
  unfold dropP
  rw [List.length_filter_eq_length_iff]
  constructor
  · intro hf
    cases e : has (A.map txt) (txt s) with
    | false => rfl
    | true => have := hf s (hm.1 e); simp at this
  · intro e a ha
    by_cases c : a = s
    · subst c; rw [hm.2 ha] at e; cases e
    · simp [c]
theorem dropP_le (A : List St) (s : St) : (dropP A s).length ≤ A.length := List.length_filter_le _ _
theorem withP_le (A : List St) (s : St) : (withP A s).length ≤ 2 * A.length + 1 := by
  have h1 := List.length_filter_le (fun a => lt (txt a) (txt s)) A
  have h2 := List.length_filter_le (fun a => lt (txt s) (txt a)) A
  simp [withP]; omega
theorem len_withT : ∀ (R : List (List UInt8)) (t : List UInt8), (withT R t).length ≤ R.length + 1
  | [], t => by simp [withT]
  | r :: rs, t => by
    have ih := len_withT rs t
    simp only [withT, List.length_append, List.length_cons] at ih ⊢
    simp only [List.filter_cons]
    cases h : lt r t
    · cases h' : lt t r <;> simp <;> omega
    · rw [lt_asymm h]; simp; omega

end Go.Proofs.Ytljafkdaljkanaa.Al
