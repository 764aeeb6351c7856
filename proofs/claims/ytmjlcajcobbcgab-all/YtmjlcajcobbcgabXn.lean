import Derived.Test.YtmjlcajcobbcgabXl
import Derived.Test.YtmjlcajcobbcgabXa
import Derived.Test.YtmjlcajcobbcgabXm
import Derived.Test.YtmjlcajcobbcgabXj
namespace Go.Proofs.Ytmjlcajcobbcgab
open Go.RowKit

/-! What the laws without the document's table need, of lists alone. -/
def insideP (a b : List UInt8) : Bool := a.all fun c => Al.told b c
def meetP (a b : List UInt8) : Bool := a.any fun c => Al.told b c
theorem told_iff (f : List UInt8) (c : UInt8) : Al.told f c = true ↔ c ∈ f := by
  unfold Al.told
  rw [List.any_eq_true]
  exact ⟨fun ⟨d, hd, h⟩ => by rw [← beq_iff_eq.1 h]; exact hd, fun h => ⟨c, h, by simp⟩⟩
theorem told_set {T : Al.Tb} {v o : Nat} (ho : o < 12) : Al.told (setOf T v) (siteB o) = T v o := by
  rw [Bool.eq_iff_iff, told_iff, mem_setOf ho]
theorem of_mem_set {T : Al.Tb} {v : Nat} {c : UInt8} (h : c ∈ setOf T v) : ∃ o, o < 12 ∧ T v o = true ∧ c = siteB o := by
  unfold setOf at h
  rw [List.mem_map] at h
  obtain ⟨o, ho, rfl⟩ := h
  rw [List.mem_filter, List.mem_range] at ho
  exact ⟨o, ho.1, ho.2, rfl⟩
theorem inside_set {T S : Al.Tb} {v u : Nat} : insideP (setOf T v) (setOf S u) = true ↔ ∀ o, o < 12 → T v o = true → S u o = true := by
  unfold insideP
  rw [List.all_eq_true]
  constructor
  · intro h o ho ht
    have := h (siteB o) ((mem_setOf ho).2 ht)
    rwa [told_set ho] at this
  · intro h c hc
    obtain ⟨o, ho, ht, rfl⟩ := of_mem_set hc
    rw [told_set ho]; exact h o ho ht
theorem meet_set {T S : Al.Tb} {v u : Nat} : meetP (setOf T v) (setOf S u) = true ↔ ∃ o, o < 12 ∧ T v o = true ∧ S u o = true := by
  unfold meetP
  rw [List.any_eq_true]
  constructor
  · rintro ⟨c, hc, h⟩
    obtain ⟨o, ho, ht, rfl⟩ := of_mem_set hc
    rw [told_set ho] at h; exact ⟨o, ho, ht, h⟩
  · rintro ⟨o, ho, ht, hs⟩
    exact ⟨siteB o, (mem_setOf ho).2 ht, by rw [told_set ho]; exact hs⟩
theorem inside_told {f g : List UInt8} (h : insideP f g = true) {c : UInt8} (hc : Al.told f c = true) : Al.told g c = true := by
  unfold insideP at h
  rw [List.all_eq_true] at h
  exact h c ((told_iff f c).1 hc)

/-- More fields told apart: fewer is asked for. -/
theorem obeys_told {A : List Al.St} (hA : ∀ s ∈ A, Al.Wf s) {f g : List UInt8} (h : ∀ c, Al.fB c.toNat = true → Al.told f c = true → Al.told g c = true) {S : Al.Tb} (hS : Al.Obeys A f S) : Al.Obeys A g S := by
  intro s hs
  obtain ⟨o0, o1, o2⟩ := hS s hs
  refine ⟨o0, o1, fun c p hp h1 h2 h3 o ho h4 => o2 c p hp h1 h2 ?_ o ho h4⟩
  rcases h3 with h3 | h3
  · left
    cases e : Al.told f s.2.2.2.2 with
    | false => rfl
    | true =>
      have hf : Al.fB s.2.2.2.2.toNat = true := by
        rcases (hA s hs).2 with ⟨h, _⟩ | ⟨h, _⟩ | ⟨_, _, _, h⟩
        · omega
        · omega
        · exact h
      rw [h _ hf e] at h3; cases h3
  · exact .inr h3
theorem obeys_less {A B : List Al.St} (h : ∀ s ∈ A, s ∈ B) {f : List UInt8} {S : Al.Tb} (hS : Al.Obeys B f S) : Al.Obeys A f S := by
  intro s hs
  obtain ⟨o0, o1, o2⟩ := hS s (h s hs)
  exact ⟨o0, o1, fun c p hp h1 h2 h3 o ho h4 => o2 c p (h p hp) h1 h2 h3 o ho h4⟩
theorem least_told {A : List Al.St} (hA : ∀ s ∈ A, Al.Wf s) {f g : List UInt8} (h : ∀ c, Al.fB c.toNat = true → Al.told f c = true → Al.told g c = true) : Al.Le (Al.leastP A g) (Al.leastP A f) :=
  (Al.leastP_is (Al.varsOk_of_wf hA) g).2 _ (obeys_told hA h (Al.leastP_is (Al.varsOk_of_wf hA) f).1)
theorem least_less {A B : List Al.St} (hA : ∀ s ∈ A, Al.Wf s) (hB : ∀ s ∈ B, Al.Wf s) (h : ∀ s ∈ A, s ∈ B) (f : List UInt8) : Al.Le (Al.leastP A f) (Al.leastP B f) :=
  (Al.leastP_is (Al.varsOk_of_wf hA) f).2 _ (obeys_less h (Al.leastP_is (Al.varsOk_of_wf hB) f).1)
theorem all_told {c : UInt8} (h : Al.fB c.toNat = true) : Al.told Al.allF c = true := by
  have h1 := f_bd h
  rw [told_iff]
  have : c = 48 ∨ c = 49 ∨ c = 50 ∨ c = 51 ∨ c = 52 ∨ c = 53 := by
    have e : c.toNat = 48 ∨ c.toNat = 49 ∨ c.toNat = 50 ∨ c.toNat = 51 ∨ c.toNat = 52 ∨ c.toNat = 53 := by omega
    rcases e with e | e | e | e | e | e
    · exact .inl (Al.u8_of e (by decide))
    · exact .inr (.inl (Al.u8_of e (by decide)))
    · exact .inr (.inr (.inl (Al.u8_of e (by decide))))
    · exact .inr (.inr (.inr (.inl (Al.u8_of e (by decide)))))
    · exact .inr (.inr (.inr (.inr (.inl (Al.u8_of e (by decide))))))
    · exact .inr (.inr (.inr (.inr (.inr (Al.u8_of e (by decide))))))
  rcases this with rfl | rfl | rfl | rfl | rfl | rfl <;> decide
theorem all_fields : fieldOk Al.allF = true := by decide

/-- The program behind the first k steps of a script. -/
def changeP (A : List Al.St) (kd : Int) (l : List UInt8) : List Al.St := if kd = 1 then chLoad l A else if kd = 2 then chAdd l A else if kd = 3 then chDrop l A else A
def playP (KD : Nat → Int) (S : Nat → ByteArray) : Nat → List Al.St
  | 0 => []
  | k + 1 => changeP (playP KD S k) (KD k) (S k).data.toList
end Go.Proofs.Ytmjlcajcobbcgab

namespace Go.Proofs.Ytmjlcajcobbcgab
open Go.RowKit

theorem conv1 (c : UInt8) (wx : World) : (convert 71 9 (.slice (some ⟨wx.heap.size, 0, none⟩) 1 1)).run Try.prog (wx.alloc (.cells #[.int .u8 (c.toNat : Nat)] 5)) = .ok (.string (bs [c])) (wx.alloc (.cells #[.int .u8 (c.toNat : Nat)] 5)) :=
  run_convert_bytes_back (P := Try.prog) (wx.alloc (.cells #[.int .u8 (c.toNat : Nat)] 5)) 71 9 5 ⟨wx.heap.size, 0, none⟩ 1 [c] Try.underlying71 Try.underlying5 Try.underlying9 (fun j hj => by
    match j, hj with
    | 0, _ =>
      rw [show ((⟨wx.heap.size, 0, none⟩ : Addr).add 0) = ⟨wx.heap.size, 0, none⟩ from by simp [Addr.add], block_cell (heap_alloc_new wx _)]
      rfl)
theorem textL_any (c : UInt8) (w : World) : Calls Try.prog 12 #[.int .u8 (c.toNat : Nat)] w fun e w' => e = .returned (.string (bs [c])) ∧ Below w.heap.size w w' := by
  have h := conv1 c
  go_enter Try.func12, Try.ntmps12
  go_wp2
  go_ret
  exact ⟨rfl, (Below.refl _ _).alloc (Nat.le_refl _) _⟩

set_option maxRecDepth 100000 in
set_option maxHeartbeats 1000000 in
theorem setL_any (b : Nat) (A : List Al.St) (c : UInt8) (f : List UInt8) (w : World) (hS : ASess w b A) (hA : Al.Good A) (hsm : A.length ≤ 24) (hf : f.length ≤ 9223372036854775807) :
    Calls Try.prog 18 #[.pointer (some ⟨b, 0, none⟩), .int .u8 (c.toNat : Nat), .string (bs f)] w fun e w' => e = .returned (.tuple #[.string (bs (pointsP A [c] f).1), .bool (((pointsP A [c] f).2.2 : Int) == 0)]) ∧ Below w.heap.size w w' := by
  have HT := hid (fun wx => textL_any c wx)
  have HP := hid (fun wx (h : ASess wx b A) => aPoints_any b A [c] f wx h hA hsm hf)
  have HN := hid num_any
  have HS := hid hS
  generalize pointsP A [c] f = R at *
  obtain ⟨R1, R2, R3⟩ := R
  simp only at HP
  clear hS
  go_enter Try.func18, Try.ntmps18
  go_wp2_with fail
  refine (HT.out _).mono ?_
  rintro e w1 ⟨rfl, hb1⟩
  have HS1 := hid (HS.out.below hb1)
  have HB1 := hid hb1
  clear hb1
  go_wp2_with fail
  refine (HP.out _ HS1.out).mono ?_
  rintro e w2 ⟨rfl, hb2⟩
  have HB2 := hid (HB1.out.trans (hb2.mono HB1.out.size))
  clear hb2
  go_wp2_with (go_at_call 15; refine (HN.out _ _).mono ?_; rintro e w' ⟨rfl, rfl⟩)
  go_ret2
  exact ⟨rfl, HB2.out⟩

theorem all_take_succ {α : Type} (p : α → Bool) {l : List α} {k : Nat} (h : k < l.length) : (l.take (k + 1)).all p = ((l.take k).all p && p l[k]) := by
  rw [List.take_succ_eq_append_getElem h, List.all_append, List.all_cons, List.all_nil, Bool.and_true]
theorem all_miss {α : Type} {p : α → Bool} {l : List α} {k : Nat} (h : k < l.length) (hp : p l[k] = false) : l.all p = false := List.all_eq_false.2 ⟨l[k], List.getElem_mem h, by simp [hp]⟩

set_option maxHeartbeats 400000 in
theorem meetL_any (a b : List UInt8) (w : World) (ha : a.length ≤ 9223372036854775807) (hb : b.length ≤ 9223372036854775807) : Calls Try.prog 45 #[.string (bs a), .string (bs b)] w fun e w' => e = .returned (.bool (meetP a b)) ∧ w' = w := by
  have hsz : (bs a).size = a.length := rfl
  have HTO := hid (fun c wx => Told_any b c wx hb)
  have HIP : Hid (meetP a b = a.any fun c => Al.told b c) := rfl
  clear hb
  go_enter Try.func45, Try.ntmps45
  go_wp2
  go_loop [5] (fun i => ∃ k : Nat, k ≤ a.length ∧ i = .int .i64 k ∧ ((a.take k).any fun c => Al.told b c) = false) (fun i => a.length - (intOf i).toNat)
  case atStart => exact ⟨0, Nat.zero_le _, rfl, by simp⟩
  case round =>
    obtain ⟨k, hk, rfl, hh⟩ := hrel
    have HH := hid hh
    clear hh
    by_cases hlt : k < a.length
    · have hi := ix a k k (a[k].toNat : Nat) rfl (by rw [List.getElem?_eq_getElem hlt]; rfl)
      have HS := hid (any_take (fun c => Al.told b c) hlt)
      have HM := hid (fun h => any_hit (p := fun c => Al.told b c) hlt h)
      have HT1 := hid (fun wx => HTO.out a[k] wx)
      generalize a[k] = d at *
      cases e : Al.told b d with
      | false =>
        rw [e] at HT1
        have HE := hid e
        clear e
        go_wp2_with (go_at_call 42; refine (HT1.out _).mono ?_; rintro e w' ⟨rfl, rfl⟩)
        go_round
        case rel => exact ⟨k + 1, by omega, by go_num, by rw [HS.out, HH.out, HE.out]; rfl⟩
        case measure => simp [intOf]; omega
      | true =>
        rw [e] at HT1
        have HE : Hid (meetP a b = true) := HM.out e
        clear e
        go_wp2_with (go_at_call 42; refine (HT1.out _).mono ?_; rintro e w' ⟨rfl, rfl⟩)
        go_ret
        exact ⟨by rw [HE.out]; rfl, rfl⟩
    · have HE : Hid (meetP a b = false) := by have := HH.out; rw [List.take_of_length_le (by omega)] at this; rw [Hid, HIP.out]; exact this
      go_wp2
      go_ret
      exact ⟨by rw [HE.out]; rfl, rfl⟩
end Go.Proofs.Ytmjlcajcobbcgab

namespace Go.Proofs.Ytmjlcajcobbcgab
open Go.RowKit

/-- How many steps of a script are played. -/
def cut (len : Nat) : Nat := min len (2 ^ 60)
theorem cut_end {len k : Nat} (h1 : k = len) (h2 : (k : Int) ≤ 1152921504606846976) : cut len = k := by
  have e : (2 : Nat) ^ 60 = 1152921504606846976 := by decide
  unfold cut; omega
theorem cut_max {len k : Nat} (h1 : k < len) (h2 : (k : Int) ≤ 1152921504606846976) (h3 : ¬ (k : Int) < 1152921504606846976) : cut len = k := by
  have e : (2 : Nat) ^ 60 = 1152921504606846976 := by decide
  unfold cut; omega
theorem play_ok (KD : Nat → Int) (S : Nat → ByteArray) : ∀ k, Al.Good (playP KD S k) ∧ (playP KD S k).length ≤ 24
  | 0 => ⟨Al.good_nil, by simp [playP]⟩
  | k + 1 => by
    obtain ⟨h1, h2⟩ := play_ok KD S k
    show Al.Good (changeP _ _ _) ∧ (changeP _ _ _).length ≤ 24
    unfold changeP
    split
    · exact chLoad_ok _ h1 h2
    · split
      · exact chAdd_ok _ h1 h2
      · split
        · exact chDrop_ok _ h1 h2
        · exact ⟨h1, h2⟩

/-- A script of at least one step in memory. -/
def Scr (w : World) (g off len : Nat) (KD W : Nat → Int) (S T U : Nat → ByteArray) : Prop :=
  ∀ k, k < len → w.cell? ⟨g, off + k * 5, none⟩ = some (.int .i64 (KD k)) ∧ w.cell? ⟨g, off + k * 5 + 1, none⟩ = some (.int .i64 (W k)) ∧ w.cell? ⟨g, off + k * 5 + 2, none⟩ = some (.string (S k)) ∧ w.cell? ⟨g, off + k * 5 + 3, none⟩ = some (.string (T k)) ∧ w.cell? ⟨g, off + k * 5 + 4, none⟩ = some (.string (U k)) ∧ (S k).size ≤ maxLen ∧ (T k).size ≤ maxLen ∧ (U k).size ≤ maxLen
theorem scr_of {w : World} {g off len : Nat} (hc : ∀ k, k < len → ∃ (kd W : Int) (s t u : ByteArray), w.cell? ⟨g, off + k * 5, none⟩ = some (.int .i64 kd) ∧ w.cell? ⟨g, off + k * 5 + 1, none⟩ = some (.int .i64 W) ∧ w.cell? ⟨g, off + k * 5 + 2, none⟩ = some (.string s) ∧ w.cell? ⟨g, off + k * 5 + 3, none⟩ = some (.string t) ∧ w.cell? ⟨g, off + k * 5 + 4, none⟩ = some (.string u) ∧ s.size ≤ maxLen ∧ t.size ≤ maxLen ∧ u.size ≤ maxLen) :
    ∃ (KD W : Nat → Int) (S T U : Nat → ByteArray), Scr w g off len KD W S T U := by
  have h : ∀ k, ∃ (q : Int × Int × ByteArray × ByteArray × ByteArray), k < len → w.cell? ⟨g, off + k * 5, none⟩ = some (.int .i64 q.1) ∧ w.cell? ⟨g, off + k * 5 + 1, none⟩ = some (.int .i64 q.2.1) ∧ w.cell? ⟨g, off + k * 5 + 2, none⟩ = some (.string q.2.2.1) ∧ w.cell? ⟨g, off + k * 5 + 3, none⟩ = some (.string q.2.2.2.1) ∧ w.cell? ⟨g, off + k * 5 + 4, none⟩ = some (.string q.2.2.2.2) ∧ q.2.2.1.size ≤ maxLen ∧ q.2.2.2.1.size ≤ maxLen ∧ q.2.2.2.2.size ≤ maxLen := by
    intro k
    by_cases hk : k < len
    · obtain ⟨kd, W, s, t, u, h⟩ := hc k hk
      exact ⟨(kd, W, s, t, u), fun _ => h⟩
    · exact ⟨(0, 0, default, default, default), fun h => absurd h hk⟩
  exact ⟨fun k => (Classical.choose (h k)).1, fun k => (Classical.choose (h k)).2.1, fun k => (Classical.choose (h k)).2.2.1, fun k => (Classical.choose (h k)).2.2.2.1, fun k => (Classical.choose (h k)).2.2.2.2, fun k hk => Classical.choose_spec (h k) hk⟩
theorem Scr.below {w w' : World} {g off len : Nat} {KD W : Nat → Int} {S T U : Nat → ByteArray} (h : Scr w g off len KD W S T U) (hg : g < w.heap.size) (hb : Below w.heap.size w w') : Scr w' g off len KD W S T U := fun k hk => by
  obtain ⟨c0, c1, c2, c3, c4, r⟩ := h k hk
  exact ⟨cell_below hb c0 hg, cell_below hb c1 hg, cell_below hb c2 hg, cell_below hb c3 hg, cell_below hb c4 hg, r⟩

set_option maxRecDepth 100000 in
set_option maxHeartbeats 2000000 in
theorem made_some (g off len cap : Nat) (KD W : Nat → Int) (S T U : Nat → ByteArray) (w : World) (hg : g < w.heap.size) (_hlc : len ≤ cap) (_hcm : cap ≤ 9223372036854775807) (hc : Scr w g off len KD W S T U) :
    Calls Try.prog 8 #[.slice (some ⟨g, off, none⟩) len cap] w fun e w' => ∃ x, e = .returned (.tuple #[.pointer (some ⟨x, 0, none⟩), .bool true]) ∧ ASess w' x (playP KD S (cut len)) ∧ w.heap.size ≤ x ∧ Below w.heap.size w w' := by
  have HC := hid hc
  have HN := hid New_any
  clear hc
  go_enter Try.func8, Try.ntmps8
  go_wp2_with fail
  refine (HN.out _).mono ?_
  rintro e w1 ⟨rfl, hw1⟩
  have hs0 : ASess w1 w.heap.size [] := by rw [hw1]; exact ⟨.slice none 0 0, heap_alloc_new w _, nil_A _⟩
  have hb0 : Below w.heap.size w w1 := by rw [hw1]; exact (Below.refl _ _).alloc (Nat.le_refl _) _
  clear hw1
  go_wp2_with fail
  go_loopw [5] (fun i wr => ∃ k : Nat, k ≤ len ∧ i = .int .i64 k ∧ (k : Int) ≤ 1152921504606846976 ∧ ASess wr w.heap.size (playP KD S k) ∧ Below w.heap.size w wr) (fun i _ => len - (intOf i).toNat)
  case atStart => exact ⟨0, Nat.zero_le _, rfl, by decide, hs0, hb0⟩
  case round =>
    clear hs0 hb0
    obtain ⟨k, hk, rfl, hkm, hse, hbel⟩ := hrel
    have hsz := hbel.size
    by_cases hlt : k < len
    · by_cases hmax : (k : Int) < 1152921504606846976
      · obtain ⟨c0, c1, c2, c3, c4, hs, _, _⟩ := HC.out k hlt
        have d0 := cell_below hbel c0 hg
        have d1 := cell_below hbel c1 hg
        have d2 := cell_below hbel c2 hg
        have d3 := cell_below hbel c3 hg
        have d4 := cell_below hbel c4 hg
        have hpo := play_ok KD S k
        obtain ⟨Sk, hSk⟩ : ∃ q, S k = q := ⟨_, rfl⟩
        obtain ⟨Tk, hTk⟩ : ∃ q, T k = q := ⟨_, rfl⟩
        obtain ⟨Uk, hUk⟩ : ∃ q, U k = q := ⟨_, rfl⟩
        obtain ⟨Wk, hWk⟩ : ∃ q, W k = q := ⟨_, rfl⟩
        obtain ⟨kd, hkd⟩ : ∃ q, KD k = q := ⟨_, rfl⟩
        rw [hkd] at d0
        rw [hWk] at d1
        rw [hSk] at d2 hs
        rw [hTk] at d3
        rw [hUk] at d4
        have HSk := hid hSk
        have HBL := hid hbel
        have HSE := hid hse
        have HPO := hid hpo
        have HS := hid hs
        have hq : w.heap.size < wr.heap.size := by obtain ⟨v, hv⟩ := hse.hd; exact lt_of_block hv
        clear c0 c1 c2 c3 c4 hSk hTk hUk hWk hbel hse hpo hs
        by_cases k1 : kd = 1
        · subst k1
          have HKD := hid hkd
          clear hkd
          have HCH : Hid (playP KD S (k + 1) = chLoad (S k).data.toList (playP KD S k)) := by show changeP _ _ _ = _; unfold changeP; rw [if_pos HKD.out]
          go_wp2_with fail
          have hbO : Below w.heap.size w (wr.alloc (.cells #[.int .i64 1, .int .i64 Wk, .string Sk, .string Tk, .string Uk] 30)) := HBL.out.alloc hsz _
          have haO := HSE.out.below ((Below.refl _ wr).alloc (Nat.le_refl _) (.cells #[.int .i64 1, .int .i64 Wk, .string Sk, .string Tk, .string Uk] 30))
          generalize wr.alloc (.cells #[.int .i64 1, .int .i64 Wk, .string Sk, .string Tk, .string Uk] 30) = W0 at *
          refine (aLoad_any w.heap.size _ Sk _ HS.out haO).mono ?_
          rintro e w2 ⟨rfl, ha2, hg2⟩
          have hI : Below w.heap.size w w2 ∧ ASess w2 w.heap.size (playP KD S (k + 1)) := ⟨below_of_grown hbO hg2 hbO.size (Nat.le_refl _), by rw [HCH.out, HSk.out]; exact ha2⟩
          clear hbO haO ha2 hg2
          go_wp2_with fail
          go_roundw
          case rel => first | exact ⟨k + 1, by omega, by go_num, by omega, hI.2, hI.1⟩ | ((repeat apply Exists.intro); refine ⟨?_, rfl⟩; exact ⟨k + 1, by omega, by go_num, by omega, hI.2, hI.1⟩)
          case measure => simp [intOf]; omega
        by_cases k2 : kd = 2
        · subst k2
          have HKD := hid hkd
          clear hkd
          have HCH : Hid (playP KD S (k + 1) = chAdd (S k).data.toList (playP KD S k)) := by show changeP _ _ _ = _; unfold changeP; rw [if_neg (by rw [HKD.out]; decide), if_pos HKD.out]
          go_wp2_with fail
          have hbO : Below w.heap.size w (wr.alloc (.cells #[.int .i64 2, .int .i64 Wk, .string Sk, .string Tk, .string Uk] 30)) := HBL.out.alloc hsz _
          have haO := HSE.out.below ((Below.refl _ wr).alloc (Nat.le_refl _) (.cells #[.int .i64 2, .int .i64 Wk, .string Sk, .string Tk, .string Uk] 30))
          generalize wr.alloc (.cells #[.int .i64 2, .int .i64 Wk, .string Sk, .string Tk, .string Uk] 30) = W0 at *
          refine (aAdd_any w.heap.size _ Sk _ HS.out haO HPO.out.2).mono ?_
          rintro e w2 ⟨rfl, ha2, hg2⟩
          have hI : Below w.heap.size w w2 ∧ ASess w2 w.heap.size (playP KD S (k + 1)) := ⟨below_of_grown hbO hg2 hbO.size (Nat.le_refl _), by rw [HCH.out, HSk.out]; exact ha2⟩
          clear hbO haO ha2 hg2
          go_wp2_with fail
          go_roundw
          case rel => first | exact ⟨k + 1, by omega, by go_num, by omega, hI.2, hI.1⟩ | ((repeat apply Exists.intro); refine ⟨?_, rfl⟩; exact ⟨k + 1, by omega, by go_num, by omega, hI.2, hI.1⟩)
          case measure => simp [intOf]; omega
        by_cases k3 : kd = 3
        · subst k3
          have HKD := hid hkd
          clear hkd
          have HCH : Hid (playP KD S (k + 1) = chDrop (S k).data.toList (playP KD S k)) := by show changeP _ _ _ = _; unfold changeP; rw [if_neg (by rw [HKD.out]; decide), if_neg (by rw [HKD.out]; decide), if_pos HKD.out]
          go_wp2_with fail
          have hbO : Below w.heap.size w (wr.alloc (.cells #[.int .i64 3, .int .i64 Wk, .string Sk, .string Tk, .string Uk] 30)) := HBL.out.alloc hsz _
          have haO := HSE.out.below ((Below.refl _ wr).alloc (Nat.le_refl _) (.cells #[.int .i64 3, .int .i64 Wk, .string Sk, .string Tk, .string Uk] 30))
          generalize wr.alloc (.cells #[.int .i64 3, .int .i64 Wk, .string Sk, .string Tk, .string Uk] 30) = W0 at *
          refine (aDrop_any w.heap.size _ Sk _ HS.out haO HPO.out.1 HPO.out.2).mono ?_
          rintro e w2 ⟨rfl, ha2, hg2⟩
          have hI : Below w.heap.size w w2 ∧ ASess w2 w.heap.size (playP KD S (k + 1)) := ⟨below_of_grown hbO hg2 hbO.size (Nat.le_refl _), by rw [HCH.out, HSk.out]; exact ha2⟩
          clear hbO haO ha2 hg2
          go_wp2_with fail
          go_roundw
          case rel => first | exact ⟨k + 1, by omega, by go_num, by omega, hI.2, hI.1⟩ | ((repeat apply Exists.intro); refine ⟨?_, rfl⟩; exact ⟨k + 1, by omega, by go_num, by omega, hI.2, hI.1⟩)
          case measure => simp [intOf]; omega
        · have HCH : Hid (playP KD S (k + 1) = playP KD S k) := by show changeP _ _ _ = _; unfold changeP; rw [if_neg (by rw [hkd]; exact k1), if_neg (by rw [hkd]; exact k2), if_neg (by rw [hkd]; exact k3)]
          have b1 : (kd == 1) = false := beq_eq_false_iff_ne.2 k1
          have b2 : (kd == 2) = false := beq_eq_false_iff_ne.2 k2
          have b3 : (kd == 3) = false := beq_eq_false_iff_ne.2 k3
          clear k1 k2 k3 hkd
          go_wp2_with fail
          go_roundw
          case rel => exact ⟨k + 1, by omega, by go_num, by omega, by rw [HCH.out]; exact HSE.out.below ((Below.refl _ wr).alloc (Nat.le_refl _) _), HBL.out.alloc hsz _⟩
          case measure => simp [intOf]; omega
      · have hd2 : decide ((k : Int) < 1152921504606846976) = false := by simpa using hmax
        have HCU := hid (cut_max hlt hkm hmax)
        clear hmax
        go_wp2_with fail
        go_ret2
        exact ⟨_, rfl, by rw [HCU.out]; exact hse, Nat.le_refl _, hbel⟩
    · have hd : decide ((k : Int) < (len : Int)) = false := by simp; omega
      have HCU := hid (cut_end (show k = len by omega) hkm)
      go_wp2_with fail
      go_ret2
      exact ⟨_, rfl, by rw [HCU.out]; exact hse, Nat.le_refl _, hbel⟩
end Go.Proofs.Ytmjlcajcobbcgab

namespace Go.Proofs.Ytmjlcajcobbcgab
open Go.RowKit

set_option maxRecDepth 100000 in
set_option maxHeartbeats 1000000 in
theorem made_zero (ao : Option Addr) (cap : Nat) (w : World) :
    Calls Try.prog 8 #[.slice ao 0 cap] w fun e w' => ∃ x, e = .returned (.tuple #[.pointer (some ⟨x, 0, none⟩), .bool true]) ∧ ASess w' x [] ∧ w.heap.size ≤ x ∧ Below w.heap.size w w' := by
  have HN := hid New_any
  go_enter Try.func8, Try.ntmps8
  go_wp2_with fail
  refine (HN.out _).mono ?_
  rintro e w1 ⟨rfl, hw1⟩
  have hs0 : ASess w1 w.heap.size [] := by rw [hw1]; exact ⟨.slice none 0 0, heap_alloc_new w _, nil_A _⟩
  have hb0 : Below w.heap.size w w1 := by rw [hw1]; exact (Below.refl _ _).alloc (Nat.le_refl _) _
  clear hw1
  go_wp2_with fail
  refine wp_loop_rounds 1 ?_
  rw [rounds_succ]
  go_wp2_with fail
  go_ret2
  exact ⟨_, rfl, hs0, Nat.le_refl _, hb0⟩

theorem rdS_len {w : World} {v : Value} {R : List (List UInt8)} (h : RdS w v R) : ∃ ao c, v = .slice ao R.length c := by
  obtain ⟨ao, c, e⟩ := ownsRow_slice h
  exact ⟨ao, c, e⟩

set_option maxRecDepth 100000 in
set_option maxHeartbeats 2000000 in
theorem list_some (x g off len cap : Nat) (KD W : Nat → Int) (S T U : Nat → ByteArray) (w : World) (hg : g < w.heap.size) (_hlc : len ≤ cap) (_hcm : cap ≤ 9223372036854775807) (hc : Scr w g off len KD W S T U) (hx : ASess w x (playP KD S (cut len))) :
    Calls Try.prog 9 #[.pointer (some ⟨x, 0, none⟩), .slice (some ⟨g, off, none⟩) len cap] w fun e w' => ∃ v, e = .returned (.tuple #[v, .bool true]) ∧ RdS w' v ((playP KD S (cut len)).map Al.txt) ∧ Below w.heap.size w w' := by
  have HC := hid hc
  obtain ⟨hgo, hsm⟩ := play_ok KD S (cut len)
  have HX := hid (aPrint_any x _ w hx hsm)
  have hcl : (cat (playP KD S (cut len))).length ≤ 6 * (playP KD S (cut len)).length := cat_le _
  have HRE := hid (fun wx => Read_any (bs (cat (playP KD S (cut len)))) wx (by show (cat (playP KD S (cut len))).length ≤ maxLen; unfold maxLen; omega))
  have hlb : Al.loadP (bs (cat (playP KD S (cut len)))).data.toList = (0, 0, playP KD S (cut len)) := Al.load_back hgo hsm
  rw [hlb] at HRE
  obtain ⟨A, hA⟩ : ∃ A, playP KD S (cut len) = A := ⟨_, rfl⟩
  rw [hA] at HX HRE hsm
  have HA := hid hA
  rw [hA]
  clear hc hx hcl hlb hA hgo
  go_enter Try.func9, Try.ntmps9
  go_wp2_with fail
  refine HX.out.mono ?_
  rintro e w1 ⟨rfl, hb1⟩
  go_wp2_with fail
  refine (HRE.out _).mono ?_
  rintro e w0 ⟨v, rfl, hv0, hb2⟩
  have hB0 : Below w.heap.size w w0 := hb1.trans (hb2.mono hb1.size)
  have hr0 : RdS w0 v (A.map Al.txt) := ownsRow_zero hv0
  obtain ⟨ao, c, hve⟩ := rdS_len hr0
  rw [List.length_map] at hve
  have HR0 := hid hr0
  have HB0 := hid hB0
  clear hv0 hb1 hb2 hB0 hr0
  subst hve
  go_wp2_with fail
  have hs0 : RSess (w0.alloc (.cells #[.slice none 0 0] 61)) w0.heap.size [] := ⟨.slice none 0 0, heap_alloc_new w0 _, nil_R _⟩
  have hb0 : Below w0.heap.size w0 (w0.alloc (.cells #[.slice none 0 0] 61)) := (Below.refl _ _).alloc (Nat.le_refl _) _
  generalize w0.alloc (.cells #[.slice none 0 0] 61) = W1 at *
  go_loopw [11] (fun i wr => ∃ k : Nat, k ≤ len ∧ i = .int .i64 k ∧ (k : Int) ≤ 1152921504606846976 ∧ RSess wr w0.heap.size (playP KD S k) ∧ Below w0.heap.size w0 wr) (fun i _ => len - (intOf i).toNat)
  case atStart => exact ⟨0, Nat.zero_le _, rfl, by decide, hs0, hb0⟩
  case round =>
    clear hs0 hb0
    obtain ⟨k, hk, rfl, hkm, hse, hbel⟩ := hrel
    have hsz := hbel.size
    have hbw := HB0.out.trans (hbel.mono HB0.out.size)
    by_cases hlt : k < len
    · by_cases hmax : (k : Int) < 1152921504606846976
      · obtain ⟨c0, c1, c2, c3, c4, hs, _, _⟩ := HC.out k hlt
        have d0 := cell_below hbw c0 hg
        have d1 := cell_below hbw c1 hg
        have d2 := cell_below hbw c2 hg
        have d3 := cell_below hbw c3 hg
        have d4 := cell_below hbw c4 hg
        have hpo := play_ok KD S k
        obtain ⟨Sk, hSk⟩ : ∃ q, S k = q := ⟨_, rfl⟩
        obtain ⟨Tk, hTk⟩ : ∃ q, T k = q := ⟨_, rfl⟩
        obtain ⟨Uk, hUk⟩ : ∃ q, U k = q := ⟨_, rfl⟩
        obtain ⟨Wk, hWk⟩ : ∃ q, W k = q := ⟨_, rfl⟩
        obtain ⟨kd, hkd⟩ : ∃ q, KD k = q := ⟨_, rfl⟩
        rw [hkd] at d0
        rw [hWk] at d1
        rw [hSk] at d2 hs
        rw [hTk] at d3
        rw [hUk] at d4
        have HSk := hid hSk
        have HBL := hid hbel
        have HSE := hid hse
        have HPO := hid hpo
        have HS := hid hs
        have hq : w0.heap.size < wr.heap.size := by obtain ⟨v, hv⟩ := hse.hd; exact lt_of_block hv
        clear c0 c1 c2 c3 c4 hSk hTk hUk hWk hbel hse hpo hs hbw
        by_cases k1 : kd = 1
        · subst k1
          have HKD := hid hkd
          clear hkd
          have HCH : Hid (playP KD S (k + 1) = chLoad (S k).data.toList (playP KD S k)) := by show changeP _ _ _ = _; unfold changeP; rw [if_pos HKD.out]
          go_wp2_with fail
          have hbO : Below w0.heap.size w0 (wr.alloc (.cells #[.int .i64 1, .int .i64 Wk, .string Sk, .string Tk, .string Uk] 30)) := HBL.out.alloc hsz _
          have haO := HSE.out.below ((Below.refl _ wr).alloc (Nat.le_refl _) (.cells #[.int .i64 1, .int .i64 Wk, .string Sk, .string Tk, .string Uk] 30))
          generalize wr.alloc (.cells #[.int .i64 1, .int .i64 Wk, .string Sk, .string Tk, .string Uk] 30) = W0 at *
          refine (rLoad_any w0.heap.size _ Sk _ HS.out haO).mono ?_
          rintro e w2 ⟨rfl, ha2, hg2⟩
          have hI : Below w0.heap.size w0 w2 ∧ RSess w2 w0.heap.size (playP KD S (k + 1)) := ⟨below_of_grown hbO hg2 hbO.size (Nat.le_refl _), by rw [HCH.out, HSk.out]; exact ha2⟩
          clear hbO haO ha2 hg2
          go_wp2_with fail
          go_roundw
          case rel => first | exact ⟨k + 1, by omega, by go_num, by omega, hI.2, hI.1⟩ | ((repeat apply Exists.intro); refine ⟨?_, rfl⟩; exact ⟨k + 1, by omega, by go_num, by omega, hI.2, hI.1⟩)
          case measure => simp [intOf]; omega
        by_cases k2 : kd = 2
        · subst k2
          have HKD := hid hkd
          clear hkd
          have HCH : Hid (playP KD S (k + 1) = chAdd (S k).data.toList (playP KD S k)) := by show changeP _ _ _ = _; unfold changeP; rw [if_neg (by rw [HKD.out]; decide), if_pos HKD.out]
          go_wp2_with fail
          have hbO : Below w0.heap.size w0 (wr.alloc (.cells #[.int .i64 2, .int .i64 Wk, .string Sk, .string Tk, .string Uk] 30)) := HBL.out.alloc hsz _
          have haO := HSE.out.below ((Below.refl _ wr).alloc (Nat.le_refl _) (.cells #[.int .i64 2, .int .i64 Wk, .string Sk, .string Tk, .string Uk] 30))
          generalize wr.alloc (.cells #[.int .i64 2, .int .i64 Wk, .string Sk, .string Tk, .string Uk] 30) = W0 at *
          refine (rAdd_any w0.heap.size _ Sk _ HS.out haO HPO.out.1 HPO.out.2).mono ?_
          rintro e w2 ⟨rfl, ha2, hg2⟩
          have hI : Below w0.heap.size w0 w2 ∧ RSess w2 w0.heap.size (playP KD S (k + 1)) := ⟨below_of_grown hbO hg2 hbO.size (Nat.le_refl _), by rw [HCH.out, HSk.out]; exact ha2⟩
          clear hbO haO ha2 hg2
          go_wp2_with fail
          go_roundw
          case rel => first | exact ⟨k + 1, by omega, by go_num, by omega, hI.2, hI.1⟩ | ((repeat apply Exists.intro); refine ⟨?_, rfl⟩; exact ⟨k + 1, by omega, by go_num, by omega, hI.2, hI.1⟩)
          case measure => simp [intOf]; omega
        by_cases k3 : kd = 3
        · subst k3
          have HKD := hid hkd
          clear hkd
          have HCH : Hid (playP KD S (k + 1) = chDrop (S k).data.toList (playP KD S k)) := by show changeP _ _ _ = _; unfold changeP; rw [if_neg (by rw [HKD.out]; decide), if_neg (by rw [HKD.out]; decide), if_pos HKD.out]
          go_wp2_with fail
          have hbO : Below w0.heap.size w0 (wr.alloc (.cells #[.int .i64 3, .int .i64 Wk, .string Sk, .string Tk, .string Uk] 30)) := HBL.out.alloc hsz _
          have haO := HSE.out.below ((Below.refl _ wr).alloc (Nat.le_refl _) (.cells #[.int .i64 3, .int .i64 Wk, .string Sk, .string Tk, .string Uk] 30))
          generalize wr.alloc (.cells #[.int .i64 3, .int .i64 Wk, .string Sk, .string Tk, .string Uk] 30) = W0 at *
          refine (rDrop_any w0.heap.size _ Sk _ HS.out haO HPO.out.1 HPO.out.2).mono ?_
          rintro e w2 ⟨rfl, ha2, hg2⟩
          have hI : Below w0.heap.size w0 w2 ∧ RSess w2 w0.heap.size (playP KD S (k + 1)) := ⟨below_of_grown hbO hg2 hbO.size (Nat.le_refl _), by rw [HCH.out, HSk.out]; exact ha2⟩
          clear hbO haO ha2 hg2
          go_wp2_with fail
          go_roundw
          case rel => first | exact ⟨k + 1, by omega, by go_num, by omega, hI.2, hI.1⟩ | ((repeat apply Exists.intro); refine ⟨?_, rfl⟩; exact ⟨k + 1, by omega, by go_num, by omega, hI.2, hI.1⟩)
          case measure => simp [intOf]; omega
        · have HCH : Hid (playP KD S (k + 1) = playP KD S k) := by show changeP _ _ _ = _; unfold changeP; rw [if_neg (by rw [hkd]; exact k1), if_neg (by rw [hkd]; exact k2), if_neg (by rw [hkd]; exact k3)]
          have b1 : (kd == 1) = false := beq_eq_false_iff_ne.2 k1
          have b2 : (kd == 2) = false := beq_eq_false_iff_ne.2 k2
          have b3 : (kd == 3) = false := beq_eq_false_iff_ne.2 k3
          clear k1 k2 k3 hkd
          go_wp2_with fail
          go_roundw
          case rel => exact ⟨k + 1, by omega, by go_num, by omega, by rw [HCH.out]; exact HSE.out.below ((Below.refl _ wr).alloc (Nat.le_refl _) _), HBL.out.alloc hsz _⟩
          case measure => simp [intOf]; omega
      · have hd2 : decide ((k : Int) < 1152921504606846976) = false := by simpa using hmax
        have HCU := hid (cut_max hlt hkm hmax)
        rw [← HCU.out, HA.out] at hse
        obtain ⟨vm, hvm, hrm⟩ := hse.ex
        obtain ⟨am, cm, rfl⟩ := rdS_len hrm
        rw [List.length_map] at hvm
        have hcm := cell_of_one hvm
        clear hmax hse hvm hrm
        go_wp2_with fail
        go_region_held3 (fun w' => w'.cell? ⟨w0.heap.size, 0, none⟩ = some (.slice am A.length cm)) (go_keep) (fail)
        all_goals go_wp2_with fail
        all_goals go_ret2
        all_goals exact ⟨_, rfl, HR0.out.below hbel.drew, hbw.drew⟩
    · have hd : decide ((k : Int) < (len : Int)) = false := by simp; omega
      have HCU := hid (cut_end (show k = len by omega) hkm)
      rw [← HCU.out, HA.out] at hse
      obtain ⟨vm, hvm, hrm⟩ := hse.ex
      obtain ⟨am, cm, rfl⟩ := rdS_len hrm
      rw [List.length_map] at hvm
      have hcm := cell_of_one hvm
      clear hse hvm hrm
      go_wp2_with fail
      go_region_held3 (fun w' => w'.cell? ⟨w0.heap.size, 0, none⟩ = some (.slice am A.length cm)) (go_keep) (fail)
      all_goals go_wp2_with fail
      all_goals go_ret2
      all_goals exact ⟨_, rfl, HR0.out.below hbel.drew, hbw.drew⟩
set_option maxRecDepth 100000 in
set_option maxHeartbeats 2000000 in
theorem list_zero (x : Nat) (ao : Option Addr) (cap : Nat) (w : World) (hx : ASess w x []) :
    Calls Try.prog 9 #[.pointer (some ⟨x, 0, none⟩), .slice ao 0 cap] w fun e w' => ∃ v, e = .returned (.tuple #[v, .bool true]) ∧ RdS w' v [] ∧ Below w.heap.size w w' := by
  have HX := hid (aPrint_any x _ w hx (by simp))
  have HRE := hid (fun wx => Read_any (bs (cat [])) wx (by show (0 : Nat) ≤ maxLen; omega))
  have hlb : Al.loadP (bs (cat [])).data.toList = (0, 0, []) := Al.load_back Al.good_nil (by simp)
  rw [hlb] at HRE
  clear hx hlb
  go_enter Try.func9, Try.ntmps9
  go_wp2_with fail
  refine HX.out.mono ?_
  rintro e w1 ⟨rfl, hb1⟩
  go_wp2_with fail
  refine (HRE.out _).mono ?_
  rintro e w0 ⟨v, rfl, hv0, hb2⟩
  have hB0 : Below w.heap.size w w0 := hb1.trans (hb2.mono hb1.size)
  have hr0 : RdS w0 v [] := ownsRow_zero hv0
  obtain ⟨av, c, hve⟩ := rdS_len hr0
  simp only [List.length_nil] at hve
  have HR0 := hid hr0
  have HB0 := hid hB0
  clear hv0 hb1 hb2 hB0 hr0
  subst hve
  go_wp2_with fail
  have hs0 : (w0.alloc (.cells #[.slice none 0 0] 61)).cell? ⟨w0.heap.size, 0, none⟩ = some (.slice none 0 0) := cell_of_one (heap_alloc_new w0 _)
  have hb0 : Below w0.heap.size w0 (w0.alloc (.cells #[.slice none 0 0] 61)) := (Below.refl _ _).alloc (Nat.le_refl _) _
  generalize w0.alloc (.cells #[.slice none 0 0] 61) = W1 at *
  have HBW := hid hb0
  clear hb0
  refine wp_loop_rounds 1 ?_
  rw [rounds_succ]
  go_wp2_with fail
  go_region_held3 (fun w' => w'.cell? ⟨w0.heap.size, 0, none⟩ = some (.slice none 0 0)) (go_keep) (fail)
  all_goals go_wp2_with fail
  all_goals go_ret2
  all_goals exact ⟨_, rfl, HR0.out.below HBW.out.drew, (HB0.out.trans (HBW.out.mono HB0.out.size)).drew⟩
end Go.Proofs.Ytmjlcajcobbcgab
