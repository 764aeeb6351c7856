import Derived.Test.YtmjlcajcobbcgabYAsk
import Derived.Test.YtmjlcajcobbcgabXc
namespace Go.Proofs.Ytmjlcajcobbcgab
open Go.RowKit

/-- What Fewest asks: a text that makes the set exact is not ahead of Refine's. -/
theorem not_ahead {A : List Al.St} {n : Nat} {f : List UInt8} (hf : fieldOk f = true) (he : exactP A n f = true) : (decide (f.length < (refineF A n).length) || (decide (f.length = (refineF A n).length) && Al.lt f (refineF A n))) = false := by
  have h := refineF_few hf he
  unfold Ahead at h
  cases e : (decide (f.length < (refineF A n).length) || (decide (f.length = (refineF A n).length) && Al.lt f (refineF A n))) with
  | false => rfl
  | true =>
    refine absurd ?_ h
    simp only [Bool.or_eq_true, Bool.and_eq_true, decide_eq_true_eq] at e
    exact e

theorem not_aheads {A : List Al.St} {n : Nat} {f : ByteArray} (hf : fieldOk f.data.toList = true) :
    (setOf (Al.leastP A f.data.toList) n = setOf (Al.leastP A Al.allF) n → (bs (refineF A n)).size ≤ f.size) ∧ (setOf (Al.leastP A f.data.toList) n = setOf (Al.leastP A Al.allF) n → (f.size : Int) = ((bs (refineF A n)).size : Int) → ¬ (f.size < (bs (refineF A n)).size ∨ Al.lt f.data.toList (bs (refineF A n)).data.toList = true)) := by
  have e1 : f.size = f.data.toList.length := rfl
  have e2 : (bs (refineF A n)).size = (refineF A n).length := rfl
  rw [e1, e2]
  refine ⟨fun h => ?_, fun h hl => ?_⟩
  · have := not_ahead hf (show exactP A n f.data.toList = true by unfold exactP; rw [h]; simp)
    simp only [Bool.or_eq_false_iff, decide_eq_false_iff_not] at this
    omega
  · have := not_ahead hf (show exactP A n f.data.toList = true by unfold exactP; rw [h]; simp)
    have hl' : f.data.toList.length = (refineF A n).length := by omega
    simp only [hl', Nat.lt_irrefl, decide_false, decide_true, Bool.false_or, Bool.true_and] at this
    rintro (h2 | h2)
    · omega
    · rw [show (bs (refineF A n)).data.toList = refineF A n from by simp [bs], this] at h2
      cases h2

set_option maxRecDepth 100000 in
set_option maxHeartbeats 4000000 in
theorem Fewest_scr (hRf : RefineOk) (g off len cap : Nat) (KD W : Nat → Int) (S T U : Nat → ByteArray) (w : World) (hg : g < w.heap.size) (hlc : len ≤ cap) (hcm : cap ≤ 9223372036854775807) (hc : Scr w g off len KD W S T U) :
    Calls Try.prog 3 #[.slice (some ⟨g, off, none⟩) len cap] w fun e w' => e = .returned (.bool true) ∧ Below w.heap.size w w' := by
  have HM := hid (made_some g off len cap KD W S T U w hg hlc hcm hc)
  have HC := hid hc
  obtain ⟨hgo, hsm⟩ := play_ok KD S (cut len)
  have HL := hid (fun x wx (hgx : g < wx.heap.size) (hcx : Scr wx g off len KD W S T U) (hx : ASess wx x (playP KD S (cut len))) => list_some x g off len cap KD W S T U wx hgx hlc hcm hcx hx)
  generalize playP KD S (cut len) = A at *
  have HGO := hid hgo
  have HRF := hid hRf
  clear hc hgo hlc hcm hRf
  go_enter Try.func3, Try.ntmps3
  go_wp2_with fail
  refine HM.out.mono ?_
  rintro e w1 ⟨x, rfl, hx1, hxs, hb1⟩
  have HL1 := hid (HL.out x w1 (Nat.lt_of_lt_of_le hg hb1.size) (HC.out.below hg hb1) hx1)
  have HX1 := hid hx1
  have HB1 := hid hb1
  clear hx1 hb1
  go_wp2_with fail
  refine HL1.out.mono ?_
  rintro e w2 ⟨v, rfl, hr2, hb2⟩
  have HX2 := hid (HX1.out.below hb2)
  have hB2 := HB1.out.trans (hb2.mono HB1.out.size)
  have HB2 := hid hB2
  have HC2 := hid (HC.out.below hg hB2)
  have hg2 : g < w2.heap.size := Nat.lt_of_lt_of_le hg hB2.size
  have HR2 := hid hr2
  clear hr2 hb2 hB2
  go_wp2_with fail
  go_loopw [7] (fun i wr => ∃ k : Nat, k ≤ len ∧ i = .int .i64 k ∧ Below w2.heap.size w2 wr) (fun i _ => len - (intOf i).toNat)
  case atStart => exact ⟨0, Nat.zero_le _, rfl, Below.refl _ _⟩
  case round =>
    obtain ⟨k, hk, rfl, hbel⟩ := hrel
    by_cases hlt : k < len
    · by_cases hmax : (k : Int) < 1152921504606846976
      · obtain ⟨c0, c1, c2, c3, c4, _, _, hus⟩ := HC2.out k hlt
        have d4 := cell_below hbel c4 hg2
        obtain ⟨Uk, hUk⟩ : ∃ q, U k = q := ⟨_, rfl⟩
        rw [hUk] at d4 hus
        have hul : Uk.data.toList.length ≤ 9223372036854775807 := hus
        have hft := fun wx => FieldText_any Uk.data.toList wx hul
        simp only [bs_back] at hft
        have HFT := hid hft
        have HBL := hid hbel
        clear hft hbel c0 c1 c2 c3 c4 hUk hus hul
        go_wp2_with fail
        refine (HFT.out _).mono ?_
        rintro e w3 ⟨rfl, n3, hw3⟩
        have hB3 : Below w2.heap.size w2 w3 := by rw [hw3]; exact Below.drewN HBL.out _
        clear hw3 d4
        cases hfo : fieldOk Uk.data.toList with
        | false =>
          clear hfo
          go_wp2_with fail
          refine wp_loop_rounds 1 ?_
          rw [rounds_succ]
          go_wp2_with fail
          go_roundw
          case rel => (first | exact ⟨k + 1, by omega, by go_num, hB3⟩ | ((repeat apply Exists.intro); refine ⟨?_, rfl⟩; exact ⟨k + 1, by omega, by go_num, hB3⟩))
          case measure => simp [intOf]; omega
        | true =>
          have HF1 := hid hfo
          have HB3 := hid hB3
          clear hfo hB3
          go_wp2_with fail
          go_loopw [10] (fun i wr => ∃ j : Nat, j ≤ 12 ∧ i = .int .i64 j ∧ Below w2.heap.size w2 wr) (fun i _ => 12 - (intOf i).toNat)
          case atStart => exact ⟨0, Nat.zero_le _, rfl, HB3.out⟩
          case round =>
            obtain ⟨j, hj, rfl, hbel⟩ := hrel
            by_cases hjl : j < 12
            · have HTV := hid (fun wx => text_var j hjl wx)
              have hrj := fun wx (h : ASess wx x A) => HRF.out x A [varByte j] wx h HGO.out hsm
              have hp1 := fun wx (h : ASess wx x A) => aPoints_any x A [varByte j] Uk.data.toList wx h HGO.out hsm (Nat.le_trans (fieldOk_len HF1.out) (by decide))
              simp only [bs_back] at hp1
              have hnm := fun wx (h : RdS wx v (A.map Al.txt)) => Named_any A v j wx h (by omega)
              have HNU := hid num_any
              have hw1 : IntKind.i64.wrap (97 + (j : Int)) = 97 + (j : Int) := IntWalk.i64_in _ ⟨by omega, by omega⟩
              have hw2 : IntKind.u8.wrap (97 + (j : Int)) = 97 + (j : Int) := by rw [IntKind.wrap_u8]; omega
              have hfl := fieldOk_len HF1.out
              have HBL2 := hid hbel
              clear hbel
              cases hn : namedP A j with
              | false =>
                rw [points_var_no hjl hn] at hp1
                have hr5 : refineP A [varByte j] = ([], 5) := by unfold refineP; rw [varN_var_no hjl hn, if_pos (by decide)]
                rw [hr5] at hrj
                rw [hn] at hnm
                have HRJ := hid hrj
                have HP1 := hid hp1
                have HNM := hid hnm
                have HBE := hid (fun wx => Below_any Uk (bs []) wx (by show Uk.data.toList.length ≤ 1000000; omega) (by show (0 : Nat) ≤ 1000000; omega))
                generalize Al.lt Uk.data.toList (bs []).data.toList = lb at *
                clear hn hrj hp1 hnm hr5 hmax hfl
                go_wp2_with fail
                refine (HTV.out _).mono ?_
                rintro e w5 ⟨rfl, hb5⟩
                have hB5 := HBL2.out.trans (hb5.mono HBL2.out.size)
                clear hb5
                go_wp2_with fail
                refine (HRJ.out _ (HX2.out.below hB5)).mono ?_
                rintro e w6 ⟨rfl, hb6⟩
                have hB6 := hB5.trans (hb6.mono hB5.size)
                clear hb6 hB5
                go_wp2_with fail
                refine (HTV.out _).mono ?_
                rintro e w7 ⟨rfl, hb7⟩
                have hB7 := hB6.trans (hb7.mono hB6.size)
                clear hb7 hB6
                go_wp2_with fail
                refine (HP1.out _ (HX2.out.below hB7)).mono ?_
                rintro e w8 ⟨rfl, hb8⟩
                have hB8 := hB7.trans (hb8.mono hB7.size)
                clear hb8 hB7
                go_wp2_with fail
                refine (HNM.out _ (HR2.out.below hB8)).mono ?_
                rintro e w9 ⟨rfl, rfl⟩
                go_wp2_with (go_at_call 15; refine (HNU.out _ _).mono ?_; rintro e w' ⟨rfl, rfl⟩)
                refine (HBE.out _).mono ?_
                rintro e w10 ⟨rfl, n10, hw10⟩
                have hB10 : Below w2.heap.size w2 w10 := by rw [hw10]; exact Below.drewN hB8 _
                clear hw10 hB8
                rcases lb with _ | _
                all_goals
                  go_wp2_with fail
                  all_goals exact ⟨⟨j + 1, by omega, by go_num, hB10⟩, by simp [intOf]; omega⟩
              | true =>
                rw [points_var hjl hn HF1.out] at hp1
                rw [refine_var hjl hn] at hrj
                rw [hn] at hnm
                have hrl := fieldOk_len (refineF_ok A j).1
                have HNA := hid (not_aheads (A := A) (n := j) HF1.out)
                have HBE := hid (fun wx => Below_any Uk (bs (refineF A j)) wx (by show Uk.data.toList.length ≤ 1000000; omega) (by show (refineF A j).length ≤ 1000000; omega))
                have HRJ := hid hrj
                have HP1 := hid hp1
                have HNM := hid hnm
                clear hn hrj hp1 hnm hmax hfl
                go_wp2_with fail
                refine (HTV.out _).mono ?_
                rintro e w5 ⟨rfl, hb5⟩
                have hB5 := HBL2.out.trans (hb5.mono HBL2.out.size)
                clear hb5
                go_wp2_with fail
                refine (HRJ.out _ (HX2.out.below hB5)).mono ?_
                rintro e w6 ⟨rfl, hb6⟩
                have hB6 := hB5.trans (hb6.mono hB5.size)
                clear hb6 hB5
                go_wp2_with fail
                refine (HTV.out _).mono ?_
                rintro e w7 ⟨rfl, hb7⟩
                have hB7 := hB6.trans (hb7.mono hB6.size)
                clear hb7 hB6
                go_wp2_with fail
                refine (HP1.out _ (HX2.out.below hB7)).mono ?_
                rintro e w8 ⟨rfl, hb8⟩
                have hB8 := hB7.trans (hb8.mono hB7.size)
                clear hb8 hB7
                go_wp2_with fail
                refine (HNM.out _ (HR2.out.below hB8)).mono ?_
                rintro e w9 ⟨rfl, rfl⟩
                go_wp2_with (go_at_call 15; refine (HNU.out _ _).mono ?_; rintro e w' ⟨rfl, rfl⟩)
                refine (HBE.out _).mono ?_
                rintro e w10 ⟨rfl, n10, hw10⟩
                have hB10 : Below w2.heap.size w2 w10 := by rw [hw10]; exact Below.drewN hB8 _
                clear hw10 hB8
                go_wp2_with fail
                all_goals first
                  | exact ⟨⟨j + 1, by omega, by go_num, hB10⟩, by simp [intOf]; omega⟩
                  | exact absurd (HNA.out.1 (by assumption)) (by assumption)
                  | exact absurd (by assumption) (HNA.out.2 (by assumption) (by assumption))
            · have hd : decide ((j : Int) < 12) = false := decide_eq_false (by omega)
              go_wp2_with fail
              go_roundw
              case rel => (first | exact ⟨k + 1, by omega, by go_num, hbel⟩ | ((repeat apply Exists.intro); refine ⟨?_, rfl⟩; exact ⟨k + 1, by omega, by go_num, hbel⟩))
              case measure => simp [intOf]; omega
      · have hd2 : decide ((k : Int) < 1152921504606846976) = false := by simpa using hmax
        clear hmax
        go_wp2_with fail
        go_ret
        exact ⟨rfl, HB2.out.trans (hbel.mono HB2.out.size)⟩
    · have hd : decide ((k : Int) < (len : Int)) = false := by simp; omega
      go_wp2_with fail
      go_ret
      exact ⟨rfl, HB2.out.trans (hbel.mono HB2.out.size)⟩
theorem Fewest_some (hRf : RefineOk) (g off len cap : Nat) (w : World) (hg : g < w.heap.size) (hlc : len ≤ cap) (hcm : cap ≤ 9223372036854775807)
    (hc : ∀ k, k < len → ∃ (kd W : Int) (s t u : ByteArray), w.cell? ⟨g, off + k * 5, none⟩ = some (.int .i64 kd) ∧ w.cell? ⟨g, off + k * 5 + 1, none⟩ = some (.int .i64 W) ∧ w.cell? ⟨g, off + k * 5 + 2, none⟩ = some (.string s) ∧ w.cell? ⟨g, off + k * 5 + 3, none⟩ = some (.string t) ∧ w.cell? ⟨g, off + k * 5 + 4, none⟩ = some (.string u) ∧ s.size ≤ maxLen ∧ t.size ≤ maxLen ∧ u.size ≤ maxLen) :
    Calls Try.prog 3 #[.slice (some ⟨g, off, none⟩) len cap] w fun e w' => e = .returned (.bool true) ∧ Below w.heap.size w w' := by
  obtain ⟨KD, W, S, T, U, h⟩ := scr_of hc
  exact Fewest_scr hRf g off len cap KD W S T U w hg hlc hcm h
set_option maxRecDepth 100000 in
set_option maxHeartbeats 1000000 in
theorem Fewest_zero (_hRf : RefineOk) (ao : Option Addr) (cap : Nat) (w : World) :
    Calls Try.prog 3 #[.slice ao 0 cap] w fun e w' => e = .returned (.bool true) ∧ Below w.heap.size w w' := by
  have HM := hid (made_zero ao cap w)
  have HL := hid (fun x wx (hx : ASess wx x []) => list_zero x ao cap wx hx)
  go_enter Try.func3, Try.ntmps3
  go_wp2_with fail
  refine HM.out.mono ?_
  rintro e w1 ⟨x, rfl, hx1, hxs, hb1⟩
  go_wp2_with fail
  refine (HL.out x _ hx1).mono ?_
  rintro e w2 ⟨v, rfl, hr2, hb2⟩
  go_wp2_with fail
  refine wp_loop_rounds 1 ?_
  rw [rounds_succ]
  go_wp2_with fail
  go_ret
  exact ⟨rfl, hb1.trans (hb2.mono hb1.size)⟩
end Go.Proofs.Ytmjlcajcobbcgab
