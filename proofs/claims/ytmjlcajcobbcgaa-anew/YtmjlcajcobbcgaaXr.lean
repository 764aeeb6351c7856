import Derived.Test.YtmjlcajcobbcgaaXn
import Derived.Test.YtmjlcajcobbcgaaXp
namespace Go.Proofs.Ytmjlcajcobbcgaa
open Go.RowKit

/-! The table that a text spells. -/
def bitStep (a : Nat × Al.Tb) (c : UInt8) : Nat × Al.Tb := if Al.vB c.toNat = true then (Al.vi c, a.2) else if Al.oB c.toNat = true then (a.1, Al.setT a.2 a.1 (Al.si c)) else a
def bitsP (u : List UInt8) : Al.Tb := (u.foldl bitStep (0, Al.emptyT)).2
theorem bit_var {a : Nat × Al.Tb} {v : Nat} (h : v < 12) : bitStep a (varByte v) = (v, a.2) := by
  have e : (varByte v).toNat = 97 + v := by unfold varByte; simp; omega
  unfold bitStep
  rw [if_pos (by simp [Al.vB, e]; omega)]
  simp [Al.vi, e]
theorem bit_site {a : Nat × Al.Tb} {o : Nat} (h : o < 12) : bitStep a (siteB o) = (a.1, Al.setT a.2 a.1 o) := by
  have e := siteB_toNat h
  unfold bitStep
  rw [if_neg (by simp [Al.vB, e]; omega), if_pos (by simp [Al.oB, e]; omega)]
  simp [Al.si, e]
theorem bit_58 (a : Nat × Al.Tb) : bitStep a 58 = a := by
  unfold bitStep; rw [if_neg (by decide), if_neg (by decide)]
theorem bit_59 (a : Nat × Al.Tb) : bitStep a 59 = a := by
  unfold bitStep; rw [if_neg (by decide), if_neg (by decide)]
theorem fold_sites : ∀ (L : List Nat) (a : Nat × Al.Tb), (∀ o ∈ L, o < 12) → ((L.map siteB).foldl bitStep a).1 = a.1 ∧ ∀ v o, ((L.map siteB).foldl bitStep a).2 v o = (a.2 v o || (v == a.1 && L.contains o))
  | [], a, _ => ⟨rfl, fun v o => by simp⟩
  | q :: L, a, h => by
    have ih := fold_sites L (bitStep a (siteB q)) fun o ho => h o (by simp [ho])
    rw [List.map_cons, List.foldl_cons]
    rw [bit_site (h q (by simp))] at ih ⊢
    refine ⟨ih.1, fun v o => ?_⟩
    rw [ih.2 v o]
    simp only [Al.setT, List.contains_cons]
    cases a.2 v o <;> cases (v == a.1) <;> cases (o == q) <;> simp
theorem fold_item (T : Al.Tb) {k : Nat} (hk : k < 12) (a : Nat × Al.Tb) : ∀ v o, o < 12 → ((itemP T k).foldl bitStep a).2 v o = (a.2 v o || (v == k && T k o)) := by
  intro v o ho
  unfold itemP
  rw [List.foldl_append, List.foldl_append]
  simp only [List.foldl_cons, List.foldl_nil, bit_59, bit_58, bit_var hk]
  have := (fold_sites ((List.range 12).filter fun o => T k o) (k, a.2) (fun o ho => by rw [List.mem_filter, List.mem_range] at ho; exact ho.1)).2 v o
  unfold setOf
  rw [this]
  congr 2
  rw [Bool.eq_iff_iff, List.contains_iff_mem, List.mem_filter, List.mem_range]
  exact ⟨fun h => h.2, fun h => ⟨ho, h⟩⟩
theorem spell_to (A : List Al.St) : ∀ k, k ≤ 12 → ∀ v o, o < 12 → ((batchTo A k).foldl bitStep (0, Al.emptyT)).2 v o = (decide (v < k) && namedP A v && Al.leastP A Al.allF v o)
  | 0, _, v, o, _ => by simp [batchTo, Al.emptyT]
  | k + 1, hk, v, o, ho => by
    have ih := spell_to A k (by omega) v o ho
    rw [batch_succ, List.foldl_append]
    by_cases hn : namedP A k = true
    · rw [if_pos hn, fold_item _ (by omega) _ v o ho, ih]
      by_cases e : v = k
      · subst e; simp [hn]
      · have : decide (v < k + 1) = decide (v < k) := by simp; omega
        rw [this]; simp [e]
    · rw [if_neg hn, List.foldl_nil, ih]
      by_cases e : v = k
      · subst e; simp [hn]
      · have : decide (v < k + 1) = decide (v < k) := by simp; omega
        rw [this]
theorem spell_batch (A : List Al.St) (v o : Nat) (ho : o < 12) : bitsP (batchP A) v o = (decide (v < 12) && namedP A v && Al.leastP A Al.allF v o) := spell_to A 12 (by omega) v o ho
theorem named_less {A B : List Al.St} (h : ∀ s ∈ A, s ∈ B) {v : Nat} (hn : namedP A v = true) : namedP B v = true := by
  unfold namedP at *
  rw [List.any_eq_true] at *
  obtain ⟨s, hs, h1⟩ := hn
  exact ⟨s, h s hs, h1⟩
/-- One statement more: each fact that was spelled is spelled. -/
theorem spelled_less {A B : List Al.St} (hA : ∀ s ∈ A, Al.Wf s) (hB : ∀ s ∈ B, Al.Wf s) (h : ∀ s ∈ A, s ∈ B) (v o : Nat) (ho : o < 12) (hs : bitsP (batchP A) v o = true) : bitsP (batchP B) v o = true := by
  rw [spell_batch _ _ _ ho, Bool.and_eq_true, Bool.and_eq_true] at hs ⊢
  exact ⟨⟨hs.1.1, named_less h hs.1.2⟩, least_less hA hB h _ v o ho hs.2⟩
end Go.Proofs.Ytmjlcajcobbcgaa

namespace Go.Proofs.Ytmjlcajcobbcgaa
open Go.RowKit

theorem var_neg {c : Nat} (h : ¬ Al.vB c = true) : varI c = -1 := by simp [Al.vB] at h; unfold varI inI; split <;> omega
theorem site_neg {c : Nat} (h : ¬ Al.oB c = true) : siteI c = -1 := by simp [Al.oB] at h; unfold siteI inI; split <;> omega
theorem Var_no (c : UInt8) (w : World) (h : ¬ Al.vB c.toNat = true) : Calls Try.prog 61 #[.int .u8 (c.toNat : Nat)] w fun e w' => e = .returned (.int .i64 (-1)) ∧ w' = w := by
  have := Var_any (c.toNat : Nat) w (by omega) (by have := c.toNat_lt; omega)
  rwa [var_neg h] at this
theorem Site_no (c : UInt8) (w : World) (h : ¬ Al.oB c.toNat = true) : Calls Try.prog 62 #[.int .u8 (c.toNat : Nat)] w fun e w' => e = .returned (.int .i64 (-1)) ∧ w' = w := by
  have := Site_any (c.toNat : Nat) w (by omega) (by have := c.toNat_lt; omega)
  rwa [site_neg h] at this
theorem bit_take {u : List UInt8} {k : Nat} (h : k < u.length) : (u.take (k + 1)).foldl bitStep (0, Al.emptyT) = bitStep ((u.take k).foldl bitStep (0, Al.emptyT)) u[k] := by
  rw [List.take_succ_eq_append_getElem h, List.foldl_append]; rfl

set_option maxRecDepth 100000 in
set_option maxHeartbeats 1000000 in
theorem bits_any (u : List UInt8) (w : World) (hl : u.length ≤ 9223372036854775807) :
    Calls Try.prog 27 #[.string (bs u)] w fun e w' => ∃ g, e = .returned (.slice (some ⟨g, 0, none⟩) 144 144) ∧ w.heap.size ≤ g ∧ Tab w' g (bitsP u) ∧ Below w.heap.size w w' := by
  have hsz : (bs u).size = u.length := rfl
  have HBP : Hid (bitsP u = (u.foldl bitStep (0, Al.emptyT)).2) := rfl
  go_enter Try.func27, Try.ntmps27
  go_wp2_with fail
  refine (Empty_any _).mono ?_
  rintro e w1 ⟨rfl, hw1⟩
  have htab0 : Tab w1 w.heap.size Al.emptyT := by rw [hw1]; exact heap_alloc_new w _
  have hbel0 : Below w.heap.size w w1 := by rw [hw1]; exact (Below.refl _ _).alloc (Nat.le_refl _) _
  clear hw1
  go_wp2_with fail
  go_loopw [4, 5] (fun v i wr => ∃ (k V : Nat) (T : Al.Tb), k ≤ u.length ∧ i = .int .i64 k ∧ v = .int .i64 V ∧ V < 12 ∧ (u.take k).foldl bitStep (0, Al.emptyT) = (V, T) ∧ Tab wr w.heap.size T ∧ Below w.heap.size w wr) (fun _ i _ => u.length - (intOf i).toNat)
  case atStart => exact ⟨0, 0, Al.emptyT, Nat.zero_le _, rfl, rfl, by omega, rfl, htab0, hbel0⟩
  case round =>
    clear htab0 hbel0
    obtain ⟨k, V, T, hk, rfl, rfl, hV, hfo, htab, hbel⟩ := hrel
    by_cases hlt : k < u.length
    · have hi := ix u k k (u[k].toNat : Nat) rfl (by rw [List.getElem?_eq_getElem hlt]; rfl)
      have HBT := hid (bit_take hlt)
      rw [hfo] at HBT
      generalize u[k] = c at *
      by_cases hv : Al.vB c.toNat = true
      · have hno : ¬ Al.oB c.toNat = true := by have := v_bd hv; simp [Al.oB]; omega
        have HV1 := hid (fun wx => Var_ok c wx hv)
        have HS1 := hid (fun wx => Site_no c wx hno)
        have HST : Hid (bitStep (V, T) c = (Al.vi c, T)) := by unfold Hid bitStep; rw [if_pos hv]
        have hvl := vi_lt hv
        generalize Al.vi c = N at *
        clear hv hno hfo
        go_wp2_with (first | (go_at_call 61; refine (HV1.out _).mono ?_; rintro e w' ⟨rfl, rfl⟩) | (go_at_call 62; refine (HS1.out _).mono ?_; rintro e w' ⟨rfl, rfl⟩))
        go_roundw
        case rel => exact ⟨k + 1, N, T, by omega, by go_num, rfl, hvl, by rw [HBT.out, HST.out], htab, hbel⟩
        case measure => simp [intOf]; omega
      · have HV1 := hid (fun wx => Var_no c wx hv)
        by_cases ho : Al.oB c.toNat = true
        · have HS1 := hid (fun wx => Site_ok c wx ho)
          have HST : Hid (bitStep (V, T) c = (V, Al.setT T V (Al.si c))) := by unfold Hid bitStep; rw [if_neg hv, if_pos ho]
          have hol := si_lt ho
          generalize Al.si c = O at *
          have hce := htab.cell hV hol
          have hfr := htab.free (V * 12 + O)
          have hw1 : IntKind.i64.wrap ((V : Int) * 12) = (V : Int) * 12 := IntWalk.i64_in _ ⟨by omega, by omega⟩
          have hw2 : IntKind.i64.wrap ((V : Int) * 12 + (O : Int)) = (V : Int) * 12 + (O : Int) := IntWalk.i64_in _ ⟨by omega, by omega⟩
          have HTB := hid htab
          have HBL := hid hbel
          clear hv ho hfo htab hbel
          go_wp2_with (first | (go_at_call 61; refine (HV1.out _).mono ?_; rintro e w' ⟨rfl, rfl⟩) | (go_at_call 62; refine (HS1.out _).mono ?_; rintro e w' ⟨rfl, rfl⟩))
          exact ⟨⟨k + 1, V, Al.setT T V O, by omega, by go_num, rfl, hV, by rw [HBT.out, HST.out], HTB.out.set hV hol, HBL.out.setCell (Nat.le_refl _) _⟩, by simp [intOf]; omega⟩
        · have HS1 := hid (fun wx => Site_no c wx ho)
          have HST : Hid (bitStep (V, T) c = (V, T)) := by unfold Hid bitStep; rw [if_neg hv, if_neg ho]
          clear hv ho hfo
          go_wp2_with (first | (go_at_call 61; refine (HV1.out _).mono ?_; rintro e w' ⟨rfl, rfl⟩) | (go_at_call 62; refine (HS1.out _).mono ?_; rintro e w' ⟨rfl, rfl⟩))
          go_roundw
          case rel => exact ⟨k + 1, V, T, by omega, by go_num, rfl, hV, by rw [HBT.out, HST.out], htab, hbel⟩
          case measure => simp [intOf]; omega
    · have HE : Hid (bitsP u = T) := by rw [List.take_of_length_le (by omega)] at hfo; rw [Hid, HBP.out, hfo]
      clear hfo
      go_wp2
      go_ret
      exact ⟨_, rfl, Nat.le_refl _, by rw [HE.out]; exact htab, hbel⟩
theorem Tab.at {w : World} {g : Nat} {T : Al.Tb} (h : Tab w g T) {i : Nat} (hi : i < 144) : w.cell? ⟨g, i, none⟩ = some (.bool (T (i / 12) (i % 12))) := by
  have := h.cell (v := i / 12) (o := i % 12) (by omega) (by omega)
  rwa [show i / 12 * 12 + i % 12 = i from by omega] at this
theorem Tab.below {w w' : World} {g : Nat} {T : Al.Tb} (h : Tab w g T) (hb : Below w.heap.size w w') : Tab w' g T := by
  unfold Tab at *
  rw [hb.block g (lt_of_block h)]; exact h

set_option maxRecDepth 100000 in
set_option maxHeartbeats 1000000 in
theorem spelled_any (a b : List UInt8) (w : World) (ha : a.length ≤ 9223372036854775807) (hb : b.length ≤ 9223372036854775807) (h : ∀ v o, o < 12 → bitsP a v o = true → bitsP b v o = true) :
    Calls Try.prog 36 #[.string (bs a), .string (bs b)] w fun e w' => e = .returned (.bool true) ∧ Below w.heap.size w w' := by
  have HA := hid (fun wx => bits_any a wx ha)
  have HB := hid (fun wx => bits_any b wx hb)
  have HH := hid h
  clear h ha hb
  go_enter Try.func36, Try.ntmps36
  go_wp2_with fail
  refine (HA.out _).mono ?_
  rintro e w1 ⟨g1, rfl, hg1, ht1, hb1⟩
  go_wp2_with fail
  refine (HB.out _).mono ?_
  rintro e w2 ⟨g2, rfl, hg2, ht2, hb2⟩
  have HT1 := hid (ht1.below hb2)
  have HT2 := hid ht2
  have hB2 := hb1.trans (hb2.mono hb1.size)
  have HB2 := hid hB2
  clear ht1 ht2 hb1 hb2 hB2 hg1 hg2
  go_wp2_with fail
  go_loopw [7] (fun i wr => ∃ k : Nat, k ≤ 144 ∧ i = .int .i64 k ∧ ∃ n, wr = w2.drewN n) (fun i _ => 144 - (intOf i).toNat)
  case atStart => exact ⟨0, Nat.zero_le _, rfl, 0, rfl⟩
  case round =>
    obtain ⟨k, hk, rfl, n, hwr⟩ := hrel
    by_cases hlt : k < 144
    · have c1 : wr.cell? ⟨g1, k, none⟩ = some (.bool (bitsP a (k / 12) (k % 12))) := by rw [hwr]; exact HT1.out.at hlt
      have c2 : wr.cell? ⟨g2, k, none⟩ = some (.bool (bitsP b (k / 12) (k % 12))) := by rw [hwr]; exact HT2.out.at hlt
      have h1 := HH.out (k / 12) (k % 12) (by omega)
      have HW := hid hwr
      clear hwr
      cases e1 : bitsP a (k / 12) (k % 12) with
      | true =>
        rw [e1] at c1
        rw [h1 e1] at c2
        clear e1 h1
        go_wp2_with fail
        exact ⟨⟨k + 1, by omega, by go_num, n, HW.out⟩, by simp [intOf]; omega⟩
      | false =>
        rw [e1] at c1
        clear e1 h1
        go_wp2_with fail
        exact ⟨⟨k + 1, by omega, by go_num, n, HW.out⟩, by simp [intOf]; omega⟩
    · go_wp2
      go_ret
      exact ⟨rfl, Below.drewN HB2.out n⟩
end Go.Proofs.Ytmjlcajcobbcgaa

namespace Go.Proofs.Ytmjlcajcobbcgaa
open Go.RowKit

/-! One statement more, and taken away again. -/
theorem map_txt_inj : ∀ {A B : List Al.St}, (∀ a ∈ A, Al.Wf a) → (∀ b ∈ B, Al.Wf b) → A.map Al.txt = B.map Al.txt → A = B
  | [], [], _, _, _ => rfl
  | [], _ :: _, _, _, h => by simp at h
  | _ :: _, [], _, _, h => by simp at h
  | a :: A, b :: B, h1, h2, h => by
    simp only [List.map_cons, List.cons.injEq] at h
    rw [Al.txt_inj (h1 a (by simp)) (h2 b (by simp)) h.1, map_txt_inj (fun x hx => h1 x (by simp [hx])) (fun x hx => h2 x (by simp [hx])) h.2]
theorem ne_txt {a s : Al.St} (ha : Al.Wf a) (hs : Al.Wf s) (h : a ≠ s) : Al.txt a ≠ Al.txt s := fun e => h (Al.txt_inj ha hs e)
theorem split_eq {s : Al.St} (hs : Al.Wf s) : ∀ {A : List Al.St}, Al.Good A → s ∉ A → A.filter (fun a => Al.lt (Al.txt a) (Al.txt s)) ++ A.filter (fun a => Al.lt (Al.txt s) (Al.txt a)) = A
  | [], _, _ => rfl
  | a :: A, hA, hn => by
    have ha : Al.Wf a := hA.1 a (by simp)
    have hA' : Al.Good A := ⟨fun b hb => hA.1 b (by simp [hb]), by have := hA.2; unfold Al.Sorted at *; rw [List.map_cons, List.pairwise_cons] at this; exact this.2⟩
    have hne : Al.txt a ≠ Al.txt s := ne_txt ha hs (fun e => hn (by rw [e]; simp))
    cases e : Al.lt (Al.txt a) (Al.txt s) with
    | true =>
      rw [List.filter_cons, if_pos e, List.filter_cons, if_neg (by rw [Al.lt_asymm e]; simp), List.cons_append, split_eq hs hA' (fun h => hn (by simp [h]))]
    | false =>
      have h2 : Al.lt (Al.txt s) (Al.txt a) = true := Al.lt_total hne e
      have hall : ∀ b ∈ A, Al.lt (Al.txt s) (Al.txt b) = true := by
        intro b hb
        have := hA.2
        unfold Al.Sorted at this
        rw [List.map_cons, List.pairwise_cons] at this
        exact Al.lt_trans h2 (this.1 (Al.txt b) (List.mem_map_of_mem hb))
      rw [List.filter_cons, if_neg (by rw [e]; simp), List.filter_cons, if_pos h2, List.filter_eq_nil_iff.2 (fun b hb => by rw [Al.lt_asymm (hall b hb)]; simp), List.filter_eq_self.2 hall]
      rfl
theorem with_has {A : List Al.St} {s : Al.St} (hA : Al.Good A) (hs : Al.Wf s) (h : s ∈ A) : Al.withP A s = A := by
  refine map_txt_inj (Al.withP_good hA hs).1 hA.1 ?_
  rw [Al.withP_txt, Al.withT_mem _ _ hA.2 (List.mem_map_of_mem h)]
theorem mem_with {A : List Al.St} {s : Al.St} (hA : Al.Good A) (hs : Al.Wf s) {a : Al.St} (h : a ∈ A) : a ∈ Al.withP A s := by
  by_cases e : s ∈ A
  · rw [with_has hA hs e]; exact h
  · unfold Al.withP
    rw [← split_eq hs hA e] at h
    rcases List.mem_append.1 h with h | h
    · exact List.mem_append.2 (.inl h)
    · exact List.mem_append.2 (.inr (by simp only [List.mem_cons]; exact .inr h))
theorem self_with (A : List Al.St) (s : Al.St) : s ∈ Al.withP A s := by unfold Al.withP; simp
theorem drop_with {A : List Al.St} {s : Al.St} (hA : Al.Good A) (hs : Al.Wf s) (hn : s ∉ A) : Al.dropP (Al.withP A s) s = A := by
  have key : ∀ a ∈ A, (!(a == s)) = true := by
    intro a ha
    have : a ≠ s := fun e => hn (by rw [← e]; exact ha)
    simp [this]
  have h1 : ∀ p : Al.St → Bool, (A.filter p).filter (fun a => !(a == s)) = A.filter p := fun p => List.filter_eq_self.2 fun a ha => key a (List.mem_filter.1 ha).1
  unfold Al.dropP Al.withP
  rw [List.filter_append, List.filter_cons, if_neg (by simp), h1, h1]
  exact split_eq hs hA hn
theorem catL_append (A B : List Al.St) : Al.catL (A ++ B) = Al.catL A ++ Al.catL B := by simp [Al.catL]
theorem with_len {A : List Al.St} {s : Al.St} (hA : Al.Good A) (hs : Al.Wf s) : (Al.catL A).length ≤ (Al.catL (Al.withP A s)).length ∧ 0 < (Al.catL (Al.withP A s)).length := by
  have hl := Al.txt_len s hs
  by_cases e : s ∈ A
  · rw [with_has hA hs e]
    refine ⟨Nat.le_refl _, ?_⟩
    have h1 := (Al.catL_len hA.1).1
    have h2 : 0 < A.length := List.length_pos_of_mem e
    omega
  · have h1 : Al.catL (Al.withP A s) = Al.catL (A.filter (fun a => Al.lt (Al.txt a) (Al.txt s))) ++ (Al.txt s ++ Al.catL (A.filter (fun a => Al.lt (Al.txt s) (Al.txt a)))) := by
      unfold Al.withP; rw [catL_append]; rfl
    have h2 : Al.catL A = Al.catL (A.filter (fun a => Al.lt (Al.txt a) (Al.txt s))) ++ Al.catL (A.filter (fun a => Al.lt (Al.txt s) (Al.txt a))) := by
      rw [← catL_append, split_eq hs hA e]
    rw [h1, h2]
    simp only [List.length_append]
    omega
theorem catL_inj {A B : List Al.St} (hA : Al.Good A) (hB : Al.Good B) (h1 : A.length ≤ 24) (h2 : B.length ≤ 24) (h : Al.catL A = Al.catL B) : A = B := by
  have e1 := Al.load_back hA h1
  have e2 := Al.load_back hB h2
  rw [h, e2] at e1
  simp only [Prod.mk.injEq, true_and] at e1
  exact e1.symm
end Go.Proofs.Ytmjlcajcobbcgaa

namespace Go.Proofs.Ytmjlcajcobbcgaa
open Go.RowKit

theorem batchP_len (A : List Al.St) : (batchP A).length ≤ 180 := batch_len A 12
theorem theSt_wf {l : List UInt8} (h : (Al.oneP l).1 = 0) : Al.Wf (theSt l) := (Al.one_yes h).2.1
/-- What Grows asks of an Add that was taken. -/
theorem grow_yes {l : List UInt8} {A : List Al.St} (hA : Al.Good A) (hl : A.length ≤ 24) (h : (addE l A).1 = 0) :
    Al.Wf (theSt l) ∧ chAdd l A = Al.withP A (theSt l) ∧ (Al.withP A (theSt l)).length ≤ 24 ∧ Al.Good (Al.withP A (theSt l)) := by
  have h1 : (Al.oneP l).1 = 0 := by
    cases e : (Al.oneP l).1 with
    | zero => rfl
    | succ n => unfold addE at h; rw [if_neg (by rw [e]; omega), e] at h; cases h
  have hw := theSt_wf h1
  have h2 : chAdd l A = Al.withP A (theSt l) := by unfold chAdd; rw [if_pos h]
  have h3 := chAdd_ok l hA hl
  rw [h2] at h3
  exact ⟨hw, h2, h3.2, h3.1⟩
theorem grow_drop {l : List UInt8} {A : List Al.St} (h : (addE l A).1 = 0) (hA : Al.Good A) (hl : A.length ≤ 24) (hn : theSt l ∉ A) :
    (dropE l (Al.withP A (theSt l))).1 = 0 ∧ chDrop l (Al.withP A (theSt l)) = A := by
  obtain ⟨hw, _, _, _⟩ := grow_yes hA hl h
  have h1 : (Al.oneP l).1 = 0 := by
    cases e : (Al.oneP l).1 with
    | zero => rfl
    | succ n => unfold addE at h; rw [if_neg (by rw [e]; omega), e] at h; cases h
  have hh : Al.has ((Al.withP A (theSt l)).map Al.txt) (Al.txt (theSt l)) = true := (Al.has_iff _ _).2 (List.mem_map_of_mem (self_with A (theSt l)))
  have h2 : (dropE l (Al.withP A (theSt l))).1 = 0 := by unfold dropE; rw [if_pos h1, if_neg (by rw [hh]; simp)]
  refine ⟨h2, ?_⟩
  unfold chDrop
  rw [if_pos h2]
  exact drop_with hA hw hn

set_option maxRecDepth 100000 in
set_option maxHeartbeats 4000000 in
theorem Grows_scr (g off len cap : Nat) (KD W : Nat → Int) (S T U : Nat → ByteArray) (w : World) (hg : g < w.heap.size) (hlc : len ≤ cap) (hcm : cap ≤ 9223372036854775807) (hc : Scr w g off len KD W S T U) (h0 : 0 < len) :
    Calls Try.prog 12 #[.slice (some ⟨g, off, none⟩) len cap] w fun e w' => e = .returned (.bool true) ∧ Below w.heap.size w w' := by
  have HM := hid (made_some g off len cap KD W S T U w hg hlc hcm hc)
  obtain ⟨c0, c1, c2, c3, c4, hss, _, _⟩ := hc 0 h0
  obtain ⟨hgo, hsm⟩ := play_ok KD S (cut len)
  generalize playP KD S (cut len) = A at *
  obtain ⟨s, hs⟩ : ∃ s, S 0 = s := ⟨_, rfl⟩
  rw [hs] at c2 hss
  simp only [Nat.zero_mul, Nat.add_zero] at c2
  have hbt := bs_toList
  have HN := hid num_any
  have hlen : ((len : Int) == 0) = false := beq_eq_false_iff_ne.2 (by omega)
  have h0i : (0 : Int) < (len : Int) := by omega
  clear hc hlc hcm c0 c1 c3 c4 hs
  have HSS := hid hss
  have HGO := hid hgo
  by_cases he : (addE s.data.toList A).1 = 0
  · obtain ⟨hwf, hch, hl2, hg2⟩ := grow_yes hgo hsm he
    have HG2 := hid (And.intro hg2 hl2)
    have HCH := hid hch
    have HSP := hid (fun wx => spelled_any (batchP A) (batchP (Al.withP A (theSt s.data.toList))) wx (Nat.le_trans (batchP_len _) (by decide)) (Nat.le_trans (batchP_len _) (by decide)) (spelled_less hgo.1 hg2.1 (fun a ha => mem_with hgo hwf ha)))
    have hwl : (cat A).length ≤ (cat (Al.withP A (theSt s.data.toList))).length ∧ 0 < (cat (Al.withP A (theSt s.data.toList))).length := with_len hgo hwf
    by_cases hst : theSt s.data.toList ∈ A
    · have hsame := with_has hgo hwf hst
      rw [hsame] at HG2 HCH HSP hwl
      have HE := hid he
      clear hch hl2 hg2 hwf hst hsame hgo hss
      go_enter Try.func12, Try.ntmps12
      go_wp2_with fail
      refine HM.out.mono ?_
      rintro e w1 ⟨x, rfl, hx1, hxs, hb1⟩
      have d2 := cell_below hb1 c2 hg
      have HX1 := hid hx1
      have HB1 := hid hb1
      clear hx1 hb1 c2
      go_wp2_with fail
      refine (aPrint_any x A _ HX1.out hsm).mono ?_
      rintro e w2 ⟨rfl, hb2⟩
      have HX2 := hid (HX1.out.below hb2)
      have HB2 := hid (HB1.out.trans (hb2.mono HB1.out.size))
      clear hb2 d2
      go_wp2_with fail
      refine (aBatch_any x A _ HX2.out HGO.out hsm).mono ?_
      rintro e w3 ⟨rfl, hb3⟩
      have HX3 := hid (HX2.out.below hb3)
      have HB3 := hid (HB2.out.trans (hb3.mono HB2.out.size))
      clear hb3
      go_wp2_with fail
      refine (aAdd_any x A s _ HSS.out HX3.out hsm).mono ?_
      rintro e w4 ⟨rfl, hx4, hg4⟩
      rw [HCH.out] at hx4
      have HX4 := hid hx4
      have HB4 := hid (below_of_grown HB3.out hg4 HB3.out.size hxs)
      clear hx4 hg4
      go_wp2_with fail
      refine (aBatch_any x A _ HX4.out HG2.out.1 HG2.out.2).mono ?_
      rintro e w5 ⟨rfl, hb5⟩
      have HX5 := hid (HX4.out.below hb5)
      have HB5 := hid (HB4.out.trans (hb5.mono HB4.out.size))
      clear hb5
      go_wp2_with fail
      refine (aPrint_any x A _ HX5.out HG2.out.2).mono ?_
      rintro e w6 ⟨rfl, hb6⟩
      have HX6 := hid (HX5.out.below hb6)
      have HB6 := hid (HB5.out.trans (hb6.mono HB5.out.size))
      clear hb6
      go_wp2_with (go_at_call 34; refine (HN.out _ _).mono ?_; rintro e w' ⟨rfl, rfl⟩)
      refine (HSP.out _).mono ?_
      rintro e w7 ⟨rfl, hb7⟩
      have HB7 := hid (HB6.out.trans (hb7.mono HB6.out.size))
      have hcz : (bs (cat A)).size = (cat A).length := rfl
      clear hb7
      go_wp2_with fail
      go_ret
      exact ⟨rfl, HB7.out⟩
    · have HGD := hid (grow_drop he hgo hsm hst)
      have hne : (cat A == cat (Al.withP A (theSt s.data.toList))) = false := beq_eq_false_iff_ne.2 fun h => hst (by
        have := catL_inj hgo hg2 hsm hl2 h
        rw [this]; exact self_with _ _)
      have HE := hid he
      generalize Al.withP A (theSt s.data.toList) = B at *
      clear hch hl2 hg2 hwf hst hgo hss
      go_enter Try.func12, Try.ntmps12
      go_wp2_with fail
      refine HM.out.mono ?_
      rintro e w1 ⟨x, rfl, hx1, hxs, hb1⟩
      have d2 := cell_below hb1 c2 hg
      have HX1 := hid hx1
      have HB1 := hid hb1
      clear hx1 hb1 c2
      go_wp2_with fail
      refine (aPrint_any x A _ HX1.out hsm).mono ?_
      rintro e w2 ⟨rfl, hb2⟩
      have HX2 := hid (HX1.out.below hb2)
      have HB2 := hid (HB1.out.trans (hb2.mono HB1.out.size))
      clear hb2 d2
      go_wp2_with fail
      refine (aBatch_any x A _ HX2.out HGO.out hsm).mono ?_
      rintro e w3 ⟨rfl, hb3⟩
      have HX3 := hid (HX2.out.below hb3)
      have HB3 := hid (HB2.out.trans (hb3.mono HB2.out.size))
      clear hb3
      go_wp2_with fail
      refine (aAdd_any x A s _ HSS.out HX3.out hsm).mono ?_
      rintro e w4 ⟨rfl, hx4, hg4⟩
      rw [HCH.out] at hx4
      have HX4 := hid hx4
      have HB4 := hid (below_of_grown HB3.out hg4 HB3.out.size hxs)
      clear hx4 hg4
      go_wp2_with fail
      refine (aBatch_any x B _ HX4.out HG2.out.1 HG2.out.2).mono ?_
      rintro e w5 ⟨rfl, hb5⟩
      have HX5 := hid (HX4.out.below hb5)
      have HB5 := hid (HB4.out.trans (hb5.mono HB4.out.size))
      clear hb5
      go_wp2_with fail
      refine (aPrint_any x B _ HX5.out HG2.out.2).mono ?_
      rintro e w6 ⟨rfl, hb6⟩
      have HX6 := hid (HX5.out.below hb6)
      have HB6 := hid (HB5.out.trans (hb6.mono HB5.out.size))
      clear hb6
      go_wp2_with (go_at_call 34; refine (HN.out _ _).mono ?_; rintro e w' ⟨rfl, rfl⟩)
      refine (HSP.out _).mono ?_
      rintro e w7 ⟨rfl, hb7⟩
      have HX7 := hid (HX6.out.below hb7)
      have HB7 := hid (HB6.out.trans (hb7.mono HB6.out.size))
      have hcz : (bs (cat A)).size = (cat A).length := rfl
      have hcy : (bs (cat B)).size = (cat B).length := rfl
      obtain ⟨hw1, hw2⟩ := hwl
      have hd1 : decide (((cat B).length : Int) < ((cat A).length : Int)) = false := decide_eq_false (by omega)
      have hd2 : (((cat B).length : Int) == 0) = false := beq_eq_false_iff_ne.2 (by omega)
      clear hb7
      go_wp2_with fail
      refine (aDrop_any x B s _ HSS.out HX7.out HG2.out.1 HG2.out.2).mono ?_
      rintro e w8 ⟨rfl, hx8, hg8⟩
      rw [HGD.out.2] at hx8
      have hde := HGD.out.1
      have HX8 := hid hx8
      have HB8 := hid (below_of_grown HB7.out hg8 HB7.out.size hxs)
      clear hx8 hg8
      go_wp2_with fail
      refine (aBatch_any x A _ HX8.out HGO.out hsm).mono ?_
      rintro e w9 ⟨rfl, hb9⟩
      have HX9 := hid (HX8.out.below hb9)
      have HB9 := hid (HB8.out.trans (hb9.mono HB8.out.size))
      clear hb9
      go_wp2_with fail
      refine (aPrint_any x A _ HX9.out hsm).mono ?_
      rintro e w10 ⟨rfl, hb10⟩
      have HB10 := hid (HB9.out.trans (hb10.mono HB9.out.size))
      clear hb10
      go_wp2_with (go_at_call 34; refine (HN.out _ _).mono ?_; rintro e w' ⟨rfl, rfl⟩)
      go_ret
      exact ⟨rfl, HB10.out⟩
  · have hch := chAdd_same he
    have HCH := hid hch
    have HG2 := hid (And.intro hgo hsm)
    have hnz : (((addE s.data.toList A).1 : Int) != 0) = true := by rw [bne_iff_ne]; omega
    clear hgo hss he hch
    go_enter Try.func12, Try.ntmps12
    go_wp2_with fail
    refine HM.out.mono ?_
    rintro e w1 ⟨x, rfl, hx1, hxs, hb1⟩
    have d2 := cell_below hb1 c2 hg
    have HX1 := hid hx1
    have HB1 := hid hb1
    clear hx1 hb1 c2
    go_wp2_with fail
    refine (aPrint_any x A _ HX1.out hsm).mono ?_
    rintro e w2 ⟨rfl, hb2⟩
    have HX2 := hid (HX1.out.below hb2)
    have HB2 := hid (HB1.out.trans (hb2.mono HB1.out.size))
    clear hb2 d2
    go_wp2_with fail
    refine (aBatch_any x A _ HX2.out HGO.out hsm).mono ?_
    rintro e w3 ⟨rfl, hb3⟩
    have HX3 := hid (HX2.out.below hb3)
    have HB3 := hid (HB2.out.trans (hb3.mono HB2.out.size))
    clear hb3
    go_wp2_with fail
    refine (aAdd_any x A s _ HSS.out HX3.out hsm).mono ?_
    rintro e w4 ⟨rfl, hx4, hg4⟩
    rw [HCH.out] at hx4
    have HX4 := hid hx4
    have HB4 := hid (below_of_grown HB3.out hg4 HB3.out.size hxs)
    clear hx4 hg4
    go_wp2_with fail
    refine (aBatch_any x A _ HX4.out HG2.out.1 HG2.out.2).mono ?_
    rintro e w5 ⟨rfl, hb5⟩
    have HX5 := hid (HX4.out.below hb5)
    have HB5 := hid (HB4.out.trans (hb5.mono HB4.out.size))
    clear hb5
    go_wp2_with fail
    refine (aPrint_any x A _ HX5.out HG2.out.2).mono ?_
    rintro e w6 ⟨rfl, hb6⟩
    have HX6 := hid (HX5.out.below hb6)
    have HB6 := hid (HB5.out.trans (hb6.mono HB5.out.size))
    clear hb6
    go_wp2_with (go_at_call 34; refine (HN.out _ _).mono ?_; rintro e w' ⟨rfl, rfl⟩)
    go_ret
    exact ⟨rfl, HB6.out⟩
set_option maxRecDepth 100000 in
set_option maxHeartbeats 1000000 in
theorem Grows_zero (ao : Option Addr) (cap : Nat) (w : World) :
    Calls Try.prog 12 #[.slice ao 0 cap] w fun e w' => e = .returned (.bool true) ∧ Below w.heap.size w w' := by
  have HM := hid (made_zero ao cap w)
  go_enter Try.func12, Try.ntmps12
  go_wp2_with fail
  refine HM.out.mono ?_
  rintro e w1 ⟨x, rfl, hx1, hxs, hb1⟩
  go_wp2_with fail
  go_ret
  exact ⟨rfl, hb1⟩
theorem Grows_some (g off len cap : Nat) (w : World) (hg : g < w.heap.size) (hlc : len ≤ cap) (hcm : cap ≤ 9223372036854775807)
    (hc : ∀ k, k < len → ∃ (kd W : Int) (s t u : ByteArray), w.cell? ⟨g, off + k * 5, none⟩ = some (.int .i64 kd) ∧ w.cell? ⟨g, off + k * 5 + 1, none⟩ = some (.int .i64 W) ∧ w.cell? ⟨g, off + k * 5 + 2, none⟩ = some (.string s) ∧ w.cell? ⟨g, off + k * 5 + 3, none⟩ = some (.string t) ∧ w.cell? ⟨g, off + k * 5 + 4, none⟩ = some (.string u) ∧ s.size ≤ maxLen ∧ t.size ≤ maxLen ∧ u.size ≤ maxLen) :
    Calls Try.prog 12 #[.slice (some ⟨g, off, none⟩) len cap] w fun e w' => e = .returned (.bool true) ∧ Below w.heap.size w w' := by
  obtain ⟨KD, W, S, T, U, h⟩ := scr_of hc
  by_cases h0 : 0 < len
  · exact Grows_scr g off len cap KD W S T U w hg hlc hcm h h0
  · obtain rfl : len = 0 := by omega
    exact Grows_zero _ cap w
end Go.Proofs.Ytmjlcajcobbcgaa
