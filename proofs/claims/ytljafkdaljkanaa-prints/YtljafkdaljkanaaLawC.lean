import Derived.Test.YtljafkdaljkanaaLawB
namespace Go.Proofs.Ytljafkdaljkanaa
open Go.RowKit

theorem Pr.below {w w' : World} {x m : Nat} {A : List Al.St} (h : Pr w x m A) (hb : Below w.heap.size w w') : Pr w' x m A := ⟨h.a.below hb, h.r.below hb, h.good, h.small⟩

set_option maxRecDepth 100000 in
set_option maxHeartbeats 400000 in
theorem step_ch (x m : Nat) (A : List Al.St) (kd W : Int) (s t u : ByteArray) (w : World) (hs : s.size ≤ maxLen) (hp : Pr w x m A) (hk : kd = 1 ∨ kd = 2 ∨ kd = 3) :
    Calls Try.prog 40 #[.agg #[.pointer (some ⟨x, 0, none⟩), .pointer (some ⟨m, 0, none⟩)], .agg #[.int .i64 kd, .int .i64 W, .string s, .string t, .string u]] w fun e w' => e = .returned (.bool true) ∧ (∃ A', Pr w' x m A') ∧ Fr x m w w' := by
  have HCH : Hid (∀ wx, Pr wx x m A → Calls Try.prog 64 #[.agg #[.pointer (some ⟨x, 0, none⟩), .pointer (some ⟨m, 0, none⟩)], .agg #[.int .i64 kd, .int .i64 W, .string s, .string t, .string u]] wx fun e w' => e = .returned (.bool true) ∧ (∃ A', Pr w' x m A') ∧ Fr x m wx w') := by
    intro wx hpx
    rcases hk with h | h | h
    · exact (changes_load x m A kd W s t u wx hs hpx h).mono fun e w' h => ⟨h.1, ⟨_, h.2.1⟩, h.2.2⟩
    · exact (changes_add x m A kd W s t u wx hs hpx h).mono fun e w' h => ⟨h.1, ⟨_, h.2.1⟩, h.2.2⟩
    · exact (changes_drop x m A kd W s t u wx hs hpx (by omega) (by omega)).mono fun e w' h => ⟨h.1, ⟨_, h.2.1⟩, h.2.2⟩
  obtain ⟨n0, n1, hbw, hsz⟩ := two_new w #[.pointer (some ⟨x, 0, none⟩), .pointer (some ⟨m, 0, none⟩)] #[.int .i64 kd, .int .i64 W, .string s, .string t, .string u] 36 33
  have HBW := hid hbw
  have HP := hid hp
  clear n0 n1 hbw hsz hp
  rcases hk with rfl | rfl | rfl
  all_goals
    go_enter Try.func40, Try.ntmps40
    go_wp2_with fail
    refine (HCH.out _ (HP.out.below HBW.out)).mono ?_
    rintro e w1 ⟨rfl, hpr, hfr⟩
    go_wp2_with fail
    go_ret
    exact ⟨rfl, hpr, (Fr.of_below HBW.out).trans hfr⟩

theorem and_one_i64 (W : Int) : bits BinOp.and IntKind.i64 W 1 = 0 ∨ bits BinOp.and IntKind.i64 W 1 = 1 := by
  have h : (BitVec.ofInt 64 W &&& BitVec.ofInt 64 1).toNat < 2 := by
    rw [BitVec.toNat_and, show (BitVec.ofInt 64 1).toNat = 1 from by decide, Nat.and_one_is_mod]; omega
  show IntKind.i64.wrap ((BitVec.ofInt 64 W &&& BitVec.ofInt 64 1).toNat : Int) = 0 ∨ IntKind.i64.wrap ((BitVec.ofInt 64 W &&& BitVec.ofInt 64 1).toNat : Int) = 1
  generalize (BitVec.ofInt 64 W &&& BitVec.ofInt 64 1).toNat = n at h
  match n, h with
  | 0, _ => exact .inl (by decide)
  | 1, _ => exact .inr (by decide)

def ptr (b : Nat) : Value := .pointer (some ⟨b, 0, none⟩)

/-- The two pairs of sessions, in the list at block w.heap.size. -/
def Ini (w wr : World) (k : Nat) : Prop :=
  Below w.heap.size w wr ∧
  ((k = 0 ∧ wr.heap[w.heap.size]? = some (.cells #[.pointer none, .pointer none, .pointer none, .pointer none] 36 (0, 0))) ∨
   (k = 1 ∧ ∃ x m, w.heap.size ≤ x ∧ w.heap.size ≤ m ∧ wr.heap[w.heap.size]? = some (.cells #[.pointer (some ⟨x, 0, none⟩), .pointer (some ⟨m, 0, none⟩), .pointer none, .pointer none] 36 (0, 0)) ∧ Pr wr x m []) ∨
   (k = 2 ∧ ∃ x m y n, w.heap.size ≤ x ∧ w.heap.size ≤ m ∧ w.heap.size ≤ y ∧ w.heap.size ≤ n ∧ x ≠ y ∧ m ≠ n ∧
     wr.heap[w.heap.size]? = some (.cells #[.pointer (some ⟨x, 0, none⟩), .pointer (some ⟨m, 0, none⟩), .pointer (some ⟨y, 0, none⟩), .pointer (some ⟨n, 0, none⟩)] 36 (0, 0)) ∧ Pr wr x m [] ∧ Pr wr y n []))

/-- Two pointers stored into the list, a block laid. -/
theorem put_two {w1 : World} {b o : Nat} {cur : Array Value} (u v : Value) (C : Obj) (hL : w1.heap[b]? = some (.cells cur 36 (0, 0))) :
    (((w1.setCell ⟨b, o, none⟩ u).setCell ⟨b, o + 1, none⟩ v).alloc C).heap[b]? = some (.cells ((cur.setIfInBounds o u).setIfInBounds (o + 1) v) 36 (0, 0)) ∧
      w1.grownBy (((w1.setCell ⟨b, o, none⟩ u).setCell ⟨b, o + 1, none⟩ v).alloc C) (some b) := by
  have hlt := lt_of_block hL
  have hsz : ((w1.setCell ⟨b, o, none⟩ u).setCell ⟨b, o + 1, none⟩ v).heap.size = w1.heap.size := by simp [World.setCell]
  refine ⟨?_, rfl, rfl, rfl, by rw [World.size_alloc, hsz]; omega, fun k hk hne => ?_⟩
  · rw [Below.heap_alloc _ _ _ (by rw [hsz]; exact hlt)]
    exact block_setCell _ (block_setCell _ hL)
  · have hne' : k ≠ b := by simpa using hne
    rw [Below.heap_alloc _ _ _ (by rw [hsz]; exact hk), Below.heap_setCell _ _ _ _ hne', Below.heap_setCell _ _ _ _ hne']

theorem Pr.list {w w' : World} {x m b : Nat} {A : List Al.St} {cur : Array Value} (h : Pr w x m A) (hf : w.grownBy w' (some b)) (hb : w.heap[b]? = some (.cells cur 36 (0, 0))) : Pr w' x m A := by
  obtain ⟨v, h1, h2⟩ := h.a.ex
  obtain ⟨v', h3, h4⟩ := h.r.ex
  refine ⟨⟨v, ?_, ?_⟩, ⟨v', ?_, ?_⟩, h.good, h.small⟩
  · rw [hf.block x (lt_of_block h1) (fun e => by simp at e; rw [e, hb] at h1; simp at h1)]; exact h1
  · exact ownsRow_stays h2 fun g cur' hg => hf.block g (lt_of_block hg) (fun e => by simp at e; rw [e, hb] at hg; simp at hg)
  · rw [hf.block m (lt_of_block h3) (fun e => by simp at e; rw [e, hb] at h3; simp at h3)]; exact h3
  · exact ownsRow_stays h4 fun g cur' hg => hf.block g (lt_of_block hg) (fun e => by simp at e; rw [e, hb] at hg; simp at hg)


/-- The two pairs, whatever their programs. -/
def Inv (w wr : World) : Prop :=
  ∃ x m y n A A', w.heap.size ≤ x ∧ w.heap.size ≤ m ∧ w.heap.size ≤ y ∧ w.heap.size ≤ n ∧ x ≠ y ∧ m ≠ n ∧
     wr.heap[w.heap.size]? = some (.cells #[.pointer (some ⟨x, 0, none⟩), .pointer (some ⟨m, 0, none⟩), .pointer (some ⟨y, 0, none⟩), .pointer (some ⟨n, 0, none⟩)] 36 (0, 0)) ∧ Pr wr x m A ∧ Pr wr y n A' ∧ Below w.heap.size w wr

theorem Pr.other {w w' : World} {x m y n : Nat} {A A' : List Al.St} (h : Pr w y n A') (hp : Pr w x m A) (hf : Fr x m w w') (hxy : x ≠ y) (hmn : m ≠ n) : Pr w' y n A' := by
  obtain ⟨vx, hx⟩ := hp.a.hd
  obtain ⟨vm, hm⟩ := hp.r.hd
  exact ⟨h.a.fr hf (Ne.symm hxy) hx hm, h.r.fr hf (Ne.symm hmn) hx hm, h.good, h.small⟩
theorem list_fr {w w' : World} {x m b : Nat} {A : List Al.St} {cur : Array Value} (hp : Pr w x m A) (hf : Fr x m w w') (hb : w.heap[b]? = some (.cells cur 36 (0, 0))) : w'.heap[b]? = some (.cells cur 36 (0, 0)) := by
  obtain ⟨vx, hx⟩ := hp.a.hd
  obtain ⟨vm, hm⟩ := hp.r.hd
  rw [hf.block b (lt_of_block hb) (fun e => by rw [e, hx] at hb; simp at hb) (fun e => by rw [e, hm] at hb; simp at hb)]
  exact hb

theorem ini_one {w wr w1 : World} {x m : Nat} (C : Obj) (hbel : Below w.heap.size w wr) (hL : wr.heap[w.heap.size]? = some (.cells #[.pointer none, .pointer none, .pointer none, .pointer none] 36 (0, 0)))
    (hx : wr.heap.size ≤ x) (hm : wr.heap.size ≤ m) (hp : Pr w1 x m []) (hbel1 : Below wr.heap.size wr w1) :
    Ini w (((w1.setCell ⟨w.heap.size, 0, none⟩ (.pointer (some ⟨x, 0, none⟩))).setCell ⟨w.heap.size, 1, none⟩ (.pointer (some ⟨m, 0, none⟩))).alloc C) 1 := by
  have hsz := hbel.size
  have hL1 : w1.heap[w.heap.size]? = some (.cells #[.pointer none, .pointer none, .pointer none, .pointer none] 36 (0, 0)) := by rw [hbel1.block _ (lt_of_block hL)]; exact hL
  obtain ⟨q1, q2⟩ := put_two (o := 0) (.pointer (some ⟨x, 0, none⟩)) (.pointer (some ⟨m, 0, none⟩)) C hL1
  exact ⟨below_of_grown (hbel.trans (hbel1.mono hsz)) q2 (Nat.le_trans hsz hbel1.size) (Nat.le_refl _), .inr (.inl ⟨rfl, x, m, by omega, by omega, q1, hp.list q2 hL1⟩)⟩
theorem ini_two {w wr w1 : World} {x m y n : Nat} (C : Obj) (hbel : Below w.heap.size w wr) (hx : w.heap.size ≤ x) (hm : w.heap.size ≤ m) (hL : wr.heap[w.heap.size]? = some (.cells #[.pointer (some ⟨x, 0, none⟩), .pointer (some ⟨m, 0, none⟩), .pointer none, .pointer none] 36 (0, 0)))
    (hp : Pr wr x m []) (hy : wr.heap.size ≤ y) (hn : wr.heap.size ≤ n) (hq : Pr w1 y n []) (hbel1 : Below wr.heap.size wr w1) :
    Ini w (((w1.setCell ⟨w.heap.size, 2, none⟩ (.pointer (some ⟨y, 0, none⟩))).setCell ⟨w.heap.size, 3, none⟩ (.pointer (some ⟨n, 0, none⟩))).alloc C) 2 := by
  have hsz := hbel.size
  have hL1 : w1.heap[w.heap.size]? = some (.cells #[.pointer (some ⟨x, 0, none⟩), .pointer (some ⟨m, 0, none⟩), .pointer none, .pointer none] 36 (0, 0)) := by rw [hbel1.block _ (lt_of_block hL)]; exact hL
  obtain ⟨q1, q2⟩ := put_two (o := 2) (.pointer (some ⟨y, 0, none⟩)) (.pointer (some ⟨n, 0, none⟩)) C hL1
  obtain ⟨vx, hvx⟩ := hp.a.hd
  obtain ⟨vm, hvm⟩ := hp.r.hd
  have h1 := lt_of_block hvx
  have h2 := lt_of_block hvm
  exact ⟨below_of_grown (hbel.trans (hbel1.mono hsz)) q2 (Nat.le_trans hsz hbel1.size) (Nat.le_refl _), .inr (.inr ⟨rfl, x, m, y, n, hx, hm, by omega, by omega, by omega, by omega, q1, (hp.below hbel1).list q2 hL1, hq.list q2 hL1⟩)⟩

theorem Inv.below {w wr W : World} (h : Inv w wr) (hb : Below wr.heap.size wr W) : Inv w W := by
  obtain ⟨x, m, y, n, A, A', hx, hm, hy, hn, hxy, hmn, hL, hp, hq, hbel⟩ := h
  exact ⟨x, m, y, n, A, A', hx, hm, hy, hn, hxy, hmn, by rw [hb.block _ (lt_of_block hL)]; exact hL, hp.below hb, hq.below hb, hbel.trans (hb.mono hbel.size)⟩

/-- The list as it lies. -/
def Lay (w wr : World) (x m y n : Nat) : Prop := wr.heap[w.heap.size]? = some (.cells #[.pointer (some ⟨x, 0, none⟩), .pointer (some ⟨m, 0, none⟩), .pointer (some ⟨y, 0, none⟩), .pointer (some ⟨n, 0, none⟩)] 36 (0, 0))

/-- Behind a step of the first pair, of the second. -/
theorem inv_left {w W w2 : World} {x m y n : Nat} {A A' A2 : List Al.St} (hx : w.heap.size ≤ x) (hm : w.heap.size ≤ m) (hy : w.heap.size ≤ y) (hn : w.heap.size ≤ n) (hxy : x ≠ y) (hmn : m ≠ n)
    (hL : Lay w W x m y n) (hp : Pr W x m A) (hq : Pr W y n A') (hbel : Below w.heap.size w W) (hp2 : Pr w2 x m A2) (hf : Fr x m W w2) : Inv w w2 :=
  ⟨x, m, y, n, A2, A', hx, hm, hy, hn, hxy, hmn, list_fr hp hf hL, hp2, hq.other hp hf hxy hmn, hbel.trans (hf.below hbel.size hx hm)⟩
theorem inv_right {w W w2 : World} {x m y n : Nat} {A A' A2 : List Al.St} (hx : w.heap.size ≤ x) (hm : w.heap.size ≤ m) (hy : w.heap.size ≤ y) (hn : w.heap.size ≤ n) (hxy : x ≠ y) (hmn : m ≠ n)
    (hL : Lay w W x m y n) (hp : Pr W x m A) (hq : Pr W y n A') (hbel : Below w.heap.size w W) (hq2 : Pr w2 y n A2) (hf : Fr y n W w2) : Inv w w2 :=
  ⟨x, m, y, n, A, A2, hx, hm, hy, hn, hxy, hmn, list_fr hq hf hL, hp.other hq hf (Ne.symm hxy) (Ne.symm hmn), hq2, hbel.trans (hf.below hbel.size hy hn)⟩
/-- Behind a New of the first pair, of the second. -/
theorem inv_new0 {w W w1 : World} {x m y n x' m' : Nat} {A A' : List Al.St} (C : Obj) (_hx : w.heap.size ≤ x) (_hm : w.heap.size ≤ m) (hy : w.heap.size ≤ y) (hn : w.heap.size ≤ n)
    (hL : Lay w W x m y n) (hq : Pr W y n A') (hbel : Below w.heap.size w W) (hx' : W.heap.size ≤ x') (hm' : W.heap.size ≤ m') (hp' : Pr w1 x' m' A) (hb1 : Below W.heap.size W w1) :
    Inv w (((w1.setCell ⟨w.heap.size, 0, none⟩ (.pointer (some ⟨x', 0, none⟩))).setCell ⟨w.heap.size, 1, none⟩ (.pointer (some ⟨m', 0, none⟩))).alloc C) := by
  have hsz := hbel.size
  have hL1 : Lay w w1 x m y n := by unfold Lay at *; rw [hb1.block _ (lt_of_block hL)]; exact hL
  obtain ⟨q1, q2⟩ := put_two (o := 0) (.pointer (some ⟨x', 0, none⟩)) (.pointer (some ⟨m', 0, none⟩)) C hL1
  obtain ⟨vy, hvy⟩ := hq.a.hd
  obtain ⟨vn, hvn⟩ := hq.r.hd
  have h1 := lt_of_block hvy
  have h2 := lt_of_block hvn
  exact ⟨x', m', y, n, A, A', by omega, by omega, hy, hn, by omega, by omega, q1, hp'.list q2 hL1, (hq.below hb1).list q2 hL1, below_of_grown (hbel.trans (hb1.mono hsz)) q2 (Nat.le_trans hsz hb1.size) (Nat.le_refl _)⟩
theorem inv_new1 {w W w1 : World} {x m y n x' m' : Nat} {A A' : List Al.St} (C : Obj) (hx : w.heap.size ≤ x) (hm : w.heap.size ≤ m) (_hy : w.heap.size ≤ y) (_hn : w.heap.size ≤ n)
    (hL : Lay w W x m y n) (hp : Pr W x m A) (hbel : Below w.heap.size w W) (hx' : W.heap.size ≤ x') (hm' : W.heap.size ≤ m') (hp' : Pr w1 x' m' A') (hb1 : Below W.heap.size W w1) :
    Inv w (((w1.setCell ⟨w.heap.size, 2, none⟩ (.pointer (some ⟨x', 0, none⟩))).setCell ⟨w.heap.size, 3, none⟩ (.pointer (some ⟨m', 0, none⟩))).alloc C) := by
  have hsz := hbel.size
  have hL1 : Lay w w1 x m y n := by unfold Lay at *; rw [hb1.block _ (lt_of_block hL)]; exact hL
  obtain ⟨q1, q2⟩ := put_two (o := 2) (.pointer (some ⟨x', 0, none⟩)) (.pointer (some ⟨m', 0, none⟩)) C hL1
  obtain ⟨vy, hvy⟩ := hp.a.hd
  obtain ⟨vn, hvn⟩ := hp.r.hd
  have h1 := lt_of_block hvy
  have h2 := lt_of_block hvn
  exact ⟨x, m, x', m', A, A', hx, hm, by omega, by omega, by omega, by omega, q1, (hp.below hb1).list q2 hL1, hp'.list q2 hL1, below_of_grown (hbel.trans (hb1.mono hsz)) q2 (Nat.le_trans hsz hb1.size) (Nat.le_refl _)⟩

end Go.Proofs.Ytljafkdaljkanaa
