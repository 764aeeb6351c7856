import Derived.Test.YtmjlcajcobbcgaaXo
import Derived.Test.YtmjlcajcobbcgaaXj
namespace Go.Proofs.Ytmjlcajcobbcgaa
open Go.RowKit

set_option maxRecDepth 100000 in
set_option maxHeartbeats 4000000 in
theorem Narrower_scr (g off len cap : Nat) (KD W : Nat → Int) (S T U : Nat → ByteArray) (w : World) (hg : g < w.heap.size) (hlc : len ≤ cap) (hcm : cap ≤ 9223372036854775807) (hc : Scr w g off len KD W S T U) :
    Calls Try.prog 9 #[.slice (some ⟨g, off, none⟩) len cap] w fun e w' => e = .returned (.bool true) ∧ Below w.heap.size w w' := by
  have HM := hid (made_some g off len cap KD W S T U w hg hlc hcm hc)
  have HC := hid hc
  obtain ⟨hgo, hsm⟩ := play_ok KD S (cut len)
  have HL := hid (fun x wx (hgx : g < wx.heap.size) (hcx : Scr wx g off len KD W S T U) (hx : ASess wx x (playP KD S (cut len))) => list_some x g off len cap KD W S T U wx hgx hlc hcm hcx hx)
  generalize playP KD S (cut len) = A at *
  have HGO := hid hgo
  clear hc hgo hlc hcm
  go_enter Try.func9, Try.ntmps9
  go_wp2_with fail
  refine HM.out.mono ?_
  rintro e w1 ⟨x, rfl, hx1, hxs, hb1⟩
  have HL1 := hid (HL.out x w1 (Nat.lt_of_lt_of_le hg hb1.size) (HC.out.below hg hb1) hx1)
  have HX1 := hid hx1
  have HB1 := hid hb1
  clear hx1 hb1
  go_wp2_with fail
  refine HL1.out.mono ?_
  rintro e w2 ⟨v, rfl, hr2, hb2⟩
  have HX2 := hid (HX1.out.below hb2)
  have hB2 := HB1.out.trans (hb2.mono HB1.out.size)
  have HB2 := hid hB2
  have HC2 := hid (HC.out.below hg hB2)
  have hg2 : g < w2.heap.size := Nat.lt_of_lt_of_le hg hB2.size
  have HR2 := hid hr2
  clear hr2 hb2 hB2
  go_wp2_with fail
  go_loopw [7] (fun i wr => ∃ k : Nat, k ≤ len ∧ i = .int .i64 k ∧ Below w2.heap.size w2 wr) (fun i _ => len - (intOf i).toNat)
  case atStart => exact ⟨0, Nat.zero_le _, rfl, Below.refl _ _⟩
  case round =>
    obtain ⟨k, hk, rfl, hbel⟩ := hrel
    by_cases hlt : k < len
    · by_cases hmax : (k : Int) < 1152921504606846976
      · obtain ⟨c0, c1, c2, c3, c4, _, hts, hus⟩ := HC2.out k hlt
        have d3 := cell_below hbel c3 hg2
        have d4 := cell_below hbel c4 hg2
        obtain ⟨Uk, hUk⟩ : ∃ q, U k = q := ⟨_, rfl⟩
        obtain ⟨Tk, hTk⟩ : ∃ q, T k = q := ⟨_, rfl⟩
        rw [hUk] at d4 hus
        rw [hTk] at d3 hts
        have hul : Uk.data.toList.length ≤ 9223372036854775807 := hus
        have htl : Tk.data.toList.length ≤ 9223372036854775807 := hts
        have hft := fun wx => FieldText_any Uk.data.toList wx hul
        have hfs := fun wx => FieldText_any Tk.data.toList wx htl
        have hin := fun wx => inside_any Uk.data.toList Tk.data.toList wx hul htl
        simp only [bs_back] at hft hfs hin
        have HFT := hid hft
        have HFS := hid hfs
        have HIN := hid hin
        have HBL := hid hbel
        clear hft hfs hin hbel c0 c1 c2 c3 c4 hUk hTk hus hts hul htl
        cases hfo : fieldOk Uk.data.toList with
        | false =>
          rw [hfo] at HFT
          clear hfo
          generalize insideP Uk.data.toList Tk.data.toList = sub at *
          go_wp2_with fail
          refine (HFT.out _).mono ?_
          rintro e w3 ⟨rfl, n3, hw3⟩
          have hB3 : Below w2.heap.size w2 w3 := by rw [hw3]; exact Below.drewN HBL.out _
          clear hw3 d3 d4
          go_wp2_with (go_at_call 32; refine (HIN.out _).mono ?_; rintro e w' ⟨rfl, rfl⟩)
          refine wp_loop_rounds 1 ?_
          rw [rounds_succ]
          go_wp2_with fail
          go_roundw
          case rel => (first | exact ⟨k + 1, by omega, by go_num, hB3⟩ | ((repeat apply Exists.intro); refine ⟨?_, rfl⟩; exact ⟨k + 1, by omega, by go_num, hB3⟩))
          case measure => simp [intOf]; omega
        | true =>
          rw [hfo] at HFT
          cases hfs2 : fieldOk Tk.data.toList with
          | false =>
            rw [hfs2] at HFS
            clear hfs2
            generalize insideP Uk.data.toList Tk.data.toList = sub at *
            go_wp2_with fail
            refine (HFT.out _).mono ?_
            rintro e w3 ⟨rfl, n3, hw3⟩
            have hB3 : Below w2.heap.size w2 w3 := by rw [hw3]; exact Below.drewN HBL.out _
            clear hw3 d3 d4
            go_wp2_with fail
            refine (HFS.out _).mono ?_
            rintro e w4 ⟨rfl, n4, hw4⟩
            have hB4 : Below w2.heap.size w2 w4 := by rw [hw4]; exact Below.drewN hB3 _
            clear hw4 hB3
            go_wp2_with (go_at_call 32; refine (HIN.out _).mono ?_; rintro e w' ⟨rfl, rfl⟩)
            refine wp_loop_rounds 1 ?_
            rw [rounds_succ]
            go_wp2_with fail
            go_roundw
            case rel => (first | exact ⟨k + 1, by omega, by go_num, hB4⟩ | ((repeat apply Exists.intro); refine ⟨?_, rfl⟩; exact ⟨k + 1, by omega, by go_num, hB4⟩))
            case measure => simp [intOf]; omega
          | true =>
            rw [hfs2] at HFS
            cases hsu : insideP Uk.data.toList Tk.data.toList with
            | false =>
              rw [hsu] at HIN
              clear hsu
              go_wp2_with fail
              refine (HFT.out _).mono ?_
              rintro e w3 ⟨rfl, n3, hw3⟩
              have hB3 : Below w2.heap.size w2 w3 := by rw [hw3]; exact Below.drewN HBL.out _
              clear hw3 d3 d4
              go_wp2_with fail
              refine (HFS.out _).mono ?_
              rintro e w4 ⟨rfl, n4, hw4⟩
              have hB4 : Below w2.heap.size w2 w4 := by rw [hw4]; exact Below.drewN hB3 _
              clear hw4 hB3
              go_wp2_with (go_at_call 32; refine (HIN.out _).mono ?_; rintro e w' ⟨rfl, rfl⟩)
              refine wp_loop_rounds 1 ?_
              rw [rounds_succ]
              go_wp2_with fail
              go_roundw
              case rel => (first | exact ⟨k + 1, by omega, by go_num, hB4⟩ | ((repeat apply Exists.intro); refine ⟨?_, rfl⟩; exact ⟨k + 1, by omega, by go_num, hB4⟩))
              case measure => simp [intOf]; omega
            | true =>
              rw [hsu] at HIN
              have HF1 := hid hfo
              have HF2 := hid hfs2
              have HSU := hid hsu
              clear hsu hfo hfs2
              go_wp2_with fail
              refine (HFT.out _).mono ?_
              rintro e w3 ⟨rfl, n3, hw3⟩
              have hB3 : Below w2.heap.size w2 w3 := by rw [hw3]; exact Below.drewN HBL.out _
              clear hw3 d3 d4
              go_wp2_with fail
              refine (HFS.out _).mono ?_
              rintro e w4 ⟨rfl, n4, hw4⟩
              have hB4 : Below w2.heap.size w2 w4 := by rw [hw4]; exact Below.drewN hB3 _
              clear hw4 hB3
              go_wp2_with (go_at_call 32; refine (HIN.out _).mono ?_; rintro e w' ⟨rfl, rfl⟩)
              go_loopw [12] (fun i wr => ∃ j : Nat, j ≤ 12 ∧ i = .int .i64 j ∧ Below w2.heap.size w2 wr) (fun i _ => 12 - (intOf i).toNat)
              case atStart => exact ⟨0, Nat.zero_le _, rfl, hB4⟩
              case round =>
                clear hB4
                obtain ⟨j, hj, rfl, hbel⟩ := hrel
                by_cases hjl : j < 12
                · have HTV := hid (fun wx => text_var j hjl wx)
                  have hp1 := fun wx (h : ASess wx x A) => aPoints_any x A [varByte j] Uk.data.toList wx h HGO.out hsm (Nat.le_trans (fieldOk_len HF1.out) (by decide))
                  have hp2 := fun wx (h : ASess wx x A) => aPoints_any x A [varByte j] Tk.data.toList wx h HGO.out hsm (Nat.le_trans (fieldOk_len HF2.out) (by decide))
                  have hp3 := fun wx (h : ASess wx x A) => set_var x A j Al.allF wx hjl h HGO.out hsm (by decide)
                  rw [bs_all6] at hp3
                  simp only [bs_back] at hp1 hp2
                  have hnm := fun wx (h : RdS wx v (A.map Al.txt)) => Named_any A v j wx h (by omega)
                  have HNU := hid num_any
                  have HBL2 := hid hbel
                  clear hbel
                  cases hn : namedP A j with
                  | false =>
                    rw [points_var_no hjl hn] at hp1 hp2 hp3
                    rw [hn] at hnm
                    have HP1 := hid hp1
                    have HP2 := hid hp2
                    have HP3 := hid hp3
                    have HNM := hid hnm
                    have HI0 := hid (fun wx => inside_any [] [] wx (by decide) (by decide))
                    rw [show insideP [] [] = true from rfl] at HI0
                    clear hn hp1 hp2 hp3 hnm hmax
                    have hw1 : IntKind.i64.wrap (97 + (j : Int)) = 97 + (j : Int) := IntWalk.i64_in _ ⟨by omega, by omega⟩
                    go_wp2_with fail
                    refine (HTV.out _).mono ?_
                    rintro e w5 ⟨rfl, hb5⟩
                    have hB5 := HBL2.out.trans (hb5.mono HBL2.out.size)
                    clear hb5
                    go_wp2_with fail
                    refine (HP1.out _ (HX2.out.below hB5)).mono ?_
                    rintro e w6 ⟨rfl, hb6⟩
                    have hB6 := hB5.trans (hb6.mono hB5.size)
                    clear hb6 hB5
                    go_wp2_with fail
                    refine (HTV.out _).mono ?_
                    rintro e w7 ⟨rfl, hb7⟩
                    have hB7 := hB6.trans (hb7.mono hB6.size)
                    clear hb7 hB6
                    go_wp2_with fail
                    refine (HP2.out _ (HX2.out.below hB7)).mono ?_
                    rintro e w8 ⟨rfl, hb8⟩
                    have hB8 := hB7.trans (hb8.mono hB7.size)
                    clear hb8 hB7
                    go_wp2_with fail
                    refine (HP3.out _ (HX2.out.below hB8)).mono ?_
                    rintro e w9 ⟨rfl, hb9⟩
                    have hB9 := hB8.trans (hb9.mono hB8.size)
                    clear hb9 hB8
                    go_wp2_with fail
                    refine (HNM.out _ (HR2.out.below hB9)).mono ?_
                    rintro e w10 ⟨rfl, rfl⟩
                    go_wp2_with (first | (go_at_call 34; refine (HNU.out _ _).mono ?_; rintro e w' ⟨rfl, rfl⟩) | (go_at_call 32; refine (HI0.out _).mono ?_; rintro e w' ⟨rfl, rfl⟩))
                    go_roundw
                    case rel => exact ⟨j + 1, by omega, by go_num, hB9⟩
                    case measure => simp [intOf]; omega
                  | true =>
                    rw [points_var hjl hn HF1.out] at hp1
                    rw [points_var hjl hn HF2.out] at hp2
                    rw [points_var hjl hn all_fields] at hp3
                    rw [hn] at hnm
                    have HP1 := hid hp1
                    have HP2 := hid hp2
                    have HP3 := hid hp3
                    have HNM := hid hnm
                    have l1 := setOf_len (Al.leastP A Uk.data.toList) j
                    have l2 := setOf_len (Al.leastP A Tk.data.toList) j
                    have l3 := setOf_len (Al.leastP A Al.allF) j
                    have hi1 := fun wx => inside_any (setOf (Al.leastP A Tk.data.toList) j) (setOf (Al.leastP A Uk.data.toList) j) wx (by omega) (by omega)
                    have hi2 := fun wx => inside_any (setOf (Al.leastP A Al.allF) j) (setOf (Al.leastP A Tk.data.toList) j) wx (by omega) (by omega)
                    rw [inside_set.2 (least_told HGO.out.1 (fun c _ h => inside_told HSU.out h) j)] at hi1
                    rw [inside_set.2 (least_told HGO.out.1 (fun c hc _ => all_told hc) j)] at hi2
                    have HI1 := hid hi1
                    have HI2 := hid hi2
                    have hbt := bs_toList
                    generalize setOf (Al.leastP A Uk.data.toList) j = X at *
                    generalize setOf (Al.leastP A Tk.data.toList) j = Y at *
                    generalize setOf (Al.leastP A Al.allF) j = Z at *
                    clear hn hp1 hp2 hp3 hnm hmax hi1 hi2 l1 l2 l3
                    have hw1 : IntKind.i64.wrap (97 + (j : Int)) = 97 + (j : Int) := IntWalk.i64_in _ ⟨by omega, by omega⟩
                    go_wp2_with fail
                    refine (HTV.out _).mono ?_
                    rintro e w5 ⟨rfl, hb5⟩
                    have hB5 := HBL2.out.trans (hb5.mono HBL2.out.size)
                    clear hb5
                    go_wp2_with fail
                    refine (HP1.out _ (HX2.out.below hB5)).mono ?_
                    rintro e w6 ⟨rfl, hb6⟩
                    have hB6 := hB5.trans (hb6.mono hB5.size)
                    clear hb6 hB5
                    go_wp2_with fail
                    refine (HTV.out _).mono ?_
                    rintro e w7 ⟨rfl, hb7⟩
                    have hB7 := hB6.trans (hb7.mono hB6.size)
                    clear hb7 hB6
                    go_wp2_with fail
                    refine (HP2.out _ (HX2.out.below hB7)).mono ?_
                    rintro e w8 ⟨rfl, hb8⟩
                    have hB8 := hB7.trans (hb8.mono hB7.size)
                    clear hb8 hB7
                    go_wp2_with fail
                    refine (HP3.out _ (HX2.out.below hB8)).mono ?_
                    rintro e w9 ⟨rfl, hb9⟩
                    have hB9 := hB8.trans (hb9.mono hB8.size)
                    clear hb9 hB8
                    go_wp2_with fail
                    refine (HNM.out _ (HR2.out.below hB9)).mono ?_
                    rintro e w10 ⟨rfl, rfl⟩
                    go_wp2_with (first | (go_at_call 34; refine (HNU.out _ _).mono ?_; rintro e w' ⟨rfl, rfl⟩))
                    refine (HI1.out _).mono ?_
                    rintro e w11 ⟨rfl, rfl⟩
                    go_wp2_with fail
                    refine (HI2.out _).mono ?_
                    rintro e w12 ⟨rfl, rfl⟩
                    obtain ⟨xz, hxz⟩ : ∃ q, (X == Z) = q := ⟨_, rfl⟩
                    obtain ⟨yz, hyz⟩ : ∃ q, (Y == Z) = q := ⟨_, rfl⟩
                    simp only [hxz, hyz]
                    go_wp2_with fail
                    exact ⟨⟨j + 1, by omega, by go_num, hB9⟩, by simp [intOf]; omega⟩
                · have hd : decide ((j : Int) < 12) = false := decide_eq_false (by omega)
                  go_wp2_with fail
                  go_roundw
                  case rel => (first | exact ⟨k + 1, by omega, by go_num, hbel⟩ | ((repeat apply Exists.intro); refine ⟨?_, rfl⟩; exact ⟨k + 1, by omega, by go_num, hbel⟩))
                  case measure => simp [intOf]; omega
      · have hd2 : decide ((k : Int) < 1152921504606846976) = false := by simpa using hmax
        clear hmax
        go_wp2_with fail
        go_ret
        exact ⟨rfl, HB2.out.trans (hbel.mono HB2.out.size)⟩
    · have hd : decide ((k : Int) < (len : Int)) = false := by simp; omega
      go_wp2_with fail
      go_ret
      exact ⟨rfl, HB2.out.trans (hbel.mono HB2.out.size)⟩
theorem Narrower_some (g off len cap : Nat) (w : World) (hg : g < w.heap.size) (hlc : len ≤ cap) (hcm : cap ≤ 9223372036854775807)
    (hc : ∀ k, k < len → ∃ (kd W : Int) (s t u : ByteArray), w.cell? ⟨g, off + k * 5, none⟩ = some (.int .i64 kd) ∧ w.cell? ⟨g, off + k * 5 + 1, none⟩ = some (.int .i64 W) ∧ w.cell? ⟨g, off + k * 5 + 2, none⟩ = some (.string s) ∧ w.cell? ⟨g, off + k * 5 + 3, none⟩ = some (.string t) ∧ w.cell? ⟨g, off + k * 5 + 4, none⟩ = some (.string u) ∧ s.size ≤ maxLen ∧ t.size ≤ maxLen ∧ u.size ≤ maxLen) :
    Calls Try.prog 9 #[.slice (some ⟨g, off, none⟩) len cap] w fun e w' => e = .returned (.bool true) ∧ Below w.heap.size w w' := by
  obtain ⟨KD, W, S, T, U, h⟩ := scr_of hc
  exact Narrower_scr g off len cap KD W S T U w hg hlc hcm h
set_option maxRecDepth 100000 in
set_option maxHeartbeats 1000000 in
theorem Narrower_zero (ao : Option Addr) (cap : Nat) (w : World) :
    Calls Try.prog 9 #[.slice ao 0 cap] w fun e w' => e = .returned (.bool true) ∧ Below w.heap.size w w' := by
  have HM := hid (made_zero ao cap w)
  have HL := hid (fun x wx (hx : ASess wx x []) => list_zero x ao cap wx hx)
  go_enter Try.func9, Try.ntmps9
  go_wp2_with fail
  refine HM.out.mono ?_
  rintro e w1 ⟨x, rfl, hx1, hxs, hb1⟩
  go_wp2_with fail
  refine (HL.out x _ hx1).mono ?_
  rintro e w2 ⟨v, rfl, hr2, hb2⟩
  go_wp2_with fail
  refine wp_loop_rounds 1 ?_
  rw [rounds_succ]
  go_wp2_with fail
  go_ret
  exact ⟨rfl, hb1.trans (hb2.mono hb1.size)⟩
end Go.Proofs.Ytmjlcajcobbcgaa

namespace Go.Proofs.Ytmjlcajcobbcgaa
open Go.RowKit

set_option maxRecDepth 100000 in
set_option maxHeartbeats 400000 in
theorem changed_load (x m : Nat) (A : List Al.St) (kd W : Int) (s t u : ByteArray) (w : World) (hs : s.size ≤ maxLen) (hp : Pr w x m A) (hk : kd = 1) :
    Calls Try.prog 19 #[.agg #[.pointer (some ⟨x, 0, none⟩), .pointer (some ⟨m, 0, none⟩)], .agg #[.int .i64 kd, .int .i64 W, .string s, .string t, .string u]] w fun e w' => e = .returned (.int .i64 ((Al.loadP s.data.toList).1 : Nat)) ∧ Pr w' x m (chLoad s.data.toList A) ∧ Fr x m w w' := by
  subst hk
  obtain ⟨ha, hr, hgood, hsmall⟩ := hp
  have HOK := hid (chLoad_ok s.data.toList hgood hsmall)
  obtain ⟨vx, hx⟩ := ha.hd
  have hxl := lt_of_block hx
  have HA := hid (fun wx (h : ASess wx x A) => aLoad_any x A s wx hs h)
  have HRr := hid (fun wx (h : RSess wx m A) => rLoad_any m A s wx hs h)
  go_enter Try.func19, Try.ntmps19
  go_wp2_with fail
  obtain ⟨n0, n1, hbw, hsz⟩ := two_new w #[.pointer (some ⟨x, 0, none⟩), .pointer (some ⟨m, 0, none⟩)] #[.int .i64 1, .int .i64 W, .string s, .string t, .string u] 36 33
  generalize (w.alloc (.cells #[.pointer (some ⟨x, 0, none⟩), .pointer (some ⟨m, 0, none⟩)] 36)).alloc (.cells #[.int .i64 1, .int .i64 W, .string s, .string t, .string u] 33) = W1 at *
  have hxW : W1.heap[x]? = some (.cells #[vx] 70 (0, 0)) := by rw [hbw.block x hxl]; exact hx
  refine (HA.out _ (ha.below hbw)).mono ?_
  rintro e w1 ⟨rfl, ha1, hg1⟩
  have p1 : w1.cell? ⟨w.heap.size, 1, none⟩ = some (.pointer (some ⟨m, 0, none⟩)) := hg1.cell (block_cell (j := 1) n0) (by simp; omega)
  have p2 : w1.cell? ⟨w.heap.size + 1, 2, none⟩ = some (.string s) := hg1.cell (block_cell (j := 2) n1) (by simp; omega)
  have hr1 := (hr.below hbw).grown hg1 hxW
  obtain ⟨vm, hm1⟩ := hr1.hd
  have HG1 := hid hg1
  have HA1 := hid ha1
  have HBW := hid hbw
  clear n0 n1 hg1 ha1 hbw hxW
  go_wp2_with fail
  refine (HRr.out _ hr1).mono ?_
  rintro e w2 ⟨rfl, hr2, hg2⟩
  have R := hid (And.intro (Pr.mk (HA1.out.grown hg2 hm1) hr2 HOK.out.1 HOK.out.2) ((Fr.of_below HBW.out).trans ((Fr.of_left (m := m) HG1.out).trans (Fr.of_right (x := x) hg2))))
  clear hr2 hg2 hm1 hr1 p1 p2
  generalize hE : Al.loadP s.data.toList = E at *
  have HE := hid hE
  clear hE
  go_wp2_with (go_at_call 34; refine (num_any _ _).mono ?_; rintro e w' ⟨rfl, rfl⟩)
  go_ret
  exact ⟨by first | rfl | (rw [HE.out]; rfl), R.out.1, R.out.2⟩
set_option maxRecDepth 100000 in
set_option maxHeartbeats 400000 in
theorem changed_add (x m : Nat) (A : List Al.St) (kd W : Int) (s t u : ByteArray) (w : World) (hs : s.size ≤ maxLen) (hp : Pr w x m A) (hk : kd = 2) :
    Calls Try.prog 19 #[.agg #[.pointer (some ⟨x, 0, none⟩), .pointer (some ⟨m, 0, none⟩)], .agg #[.int .i64 kd, .int .i64 W, .string s, .string t, .string u]] w fun e w' => e = .returned (.int .i64 ((addE s.data.toList A).1 : Nat)) ∧ Pr w' x m (chAdd s.data.toList A) ∧ Fr x m w w' := by
  subst hk
  obtain ⟨ha, hr, hgood, hsmall⟩ := hp
  have HOK := hid (chAdd_ok s.data.toList hgood hsmall)
  obtain ⟨vx, hx⟩ := ha.hd
  have hxl := lt_of_block hx
  have HA := hid (fun wx (h : ASess wx x A) => aAdd_any x A s wx hs h hsmall)
  have HRr := hid (fun wx (h : RSess wx m A) => rAdd_any m A s wx hs h hgood hsmall)
  go_enter Try.func19, Try.ntmps19
  go_wp2_with fail
  obtain ⟨n0, n1, hbw, hsz⟩ := two_new w #[.pointer (some ⟨x, 0, none⟩), .pointer (some ⟨m, 0, none⟩)] #[.int .i64 2, .int .i64 W, .string s, .string t, .string u] 36 33
  generalize (w.alloc (.cells #[.pointer (some ⟨x, 0, none⟩), .pointer (some ⟨m, 0, none⟩)] 36)).alloc (.cells #[.int .i64 2, .int .i64 W, .string s, .string t, .string u] 33) = W1 at *
  have hxW : W1.heap[x]? = some (.cells #[vx] 70 (0, 0)) := by rw [hbw.block x hxl]; exact hx
  refine (HA.out _ (ha.below hbw)).mono ?_
  rintro e w1 ⟨rfl, ha1, hg1⟩
  have p1 : w1.cell? ⟨w.heap.size, 1, none⟩ = some (.pointer (some ⟨m, 0, none⟩)) := hg1.cell (block_cell (j := 1) n0) (by simp; omega)
  have p2 : w1.cell? ⟨w.heap.size + 1, 2, none⟩ = some (.string s) := hg1.cell (block_cell (j := 2) n1) (by simp; omega)
  have hr1 := (hr.below hbw).grown hg1 hxW
  obtain ⟨vm, hm1⟩ := hr1.hd
  have HG1 := hid hg1
  have HA1 := hid ha1
  have HBW := hid hbw
  clear n0 n1 hg1 ha1 hbw hxW
  go_wp2_with fail
  refine (HRr.out _ hr1).mono ?_
  rintro e w2 ⟨rfl, hr2, hg2⟩
  have R := hid (And.intro (Pr.mk (HA1.out.grown hg2 hm1) hr2 HOK.out.1 HOK.out.2) ((Fr.of_below HBW.out).trans ((Fr.of_left (m := m) HG1.out).trans (Fr.of_right (x := x) hg2))))
  clear hr2 hg2 hm1 hr1 p1 p2
  generalize hE : addE s.data.toList A = E at *
  have HE := hid hE
  clear hE
  go_wp2_with (go_at_call 34; refine (num_any _ _).mono ?_; rintro e w' ⟨rfl, rfl⟩)
  go_ret
  exact ⟨by first | rfl | (rw [HE.out]; rfl), R.out.1, R.out.2⟩
set_option maxRecDepth 100000 in
set_option maxHeartbeats 400000 in
theorem changed_drop (x m : Nat) (A : List Al.St) (kd W : Int) (s t u : ByteArray) (w : World) (hs : s.size ≤ maxLen) (hp : Pr w x m A) (h1 : kd ≠ 1) (h2 : kd ≠ 2) :
    Calls Try.prog 19 #[.agg #[.pointer (some ⟨x, 0, none⟩), .pointer (some ⟨m, 0, none⟩)], .agg #[.int .i64 kd, .int .i64 W, .string s, .string t, .string u]] w fun e w' => e = .returned (.int .i64 ((dropE s.data.toList A).1 : Nat)) ∧ Pr w' x m (chDrop s.data.toList A) ∧ Fr x m w w' := by
  obtain ⟨ha, hr, hgood, hsmall⟩ := hp
  have HOK := hid (chDrop_ok s.data.toList hgood hsmall)
  obtain ⟨vx, hx⟩ := ha.hd
  have hxl := lt_of_block hx
  have HA := hid (fun wx (h : ASess wx x A) => aDrop_any x A s wx hs h hgood hsmall)
  have HRr := hid (fun wx (h : RSess wx m A) => rDrop_any m A s wx hs h hgood hsmall)
  go_enter Try.func19, Try.ntmps19
  go_wp2_with fail
  obtain ⟨n0, n1, hbw, hsz⟩ := two_new w #[.pointer (some ⟨x, 0, none⟩), .pointer (some ⟨m, 0, none⟩)] #[.int .i64 kd, .int .i64 W, .string s, .string t, .string u] 36 33
  generalize (w.alloc (.cells #[.pointer (some ⟨x, 0, none⟩), .pointer (some ⟨m, 0, none⟩)] 36)).alloc (.cells #[.int .i64 kd, .int .i64 W, .string s, .string t, .string u] 33) = W1 at *
  have hxW : W1.heap[x]? = some (.cells #[vx] 70 (0, 0)) := by rw [hbw.block x hxl]; exact hx
  refine (HA.out _ (ha.below hbw)).mono ?_
  rintro e w1 ⟨rfl, ha1, hg1⟩
  have p1 : w1.cell? ⟨w.heap.size, 1, none⟩ = some (.pointer (some ⟨m, 0, none⟩)) := hg1.cell (block_cell (j := 1) n0) (by simp; omega)
  have p2 : w1.cell? ⟨w.heap.size + 1, 2, none⟩ = some (.string s) := hg1.cell (block_cell (j := 2) n1) (by simp; omega)
  have hr1 := (hr.below hbw).grown hg1 hxW
  obtain ⟨vm, hm1⟩ := hr1.hd
  have HG1 := hid hg1
  have HA1 := hid ha1
  have HBW := hid hbw
  clear n0 n1 hg1 ha1 hbw hxW
  go_wp2_with fail
  refine (HRr.out _ hr1).mono ?_
  rintro e w2 ⟨rfl, hr2, hg2⟩
  have R := hid (And.intro (Pr.mk (HA1.out.grown hg2 hm1) hr2 HOK.out.1 HOK.out.2) ((Fr.of_below HBW.out).trans ((Fr.of_left (m := m) HG1.out).trans (Fr.of_right (x := x) hg2))))
  clear hr2 hg2 hm1 hr1 p1 p2
  generalize hE : dropE s.data.toList A = E at *
  have HE := hid hE
  clear hE
  go_wp2_with (go_at_call 34; refine (num_any _ _).mono ?_; rintro e w' ⟨rfl, rfl⟩)
  go_ret
  exact ⟨by first | rfl | (rw [HE.out]; rfl), R.out.1, R.out.2⟩


theorem chLoad_same {l : List UInt8} {A : List Al.St} (h : (Al.loadP l).1 ≠ 0) : chLoad l A = A := by unfold chLoad; rw [if_neg h]
theorem chAdd_same {l : List UInt8} {A : List Al.St} (h : (addE l A).1 ≠ 0) : chAdd l A = A := by unfold chAdd; rw [if_neg h]
theorem chDrop_same {l : List UInt8} {A : List Al.St} (h : (dropE l A).1 ≠ 0) : chDrop l A = A := by unfold chDrop; rw [if_neg h]
/-- The three changes alike: an error leaves the statements. -/
theorem changed_any (x m : Nat) (A : List Al.St) (kd W : Int) (s t u : ByteArray) (w : World) (hs : s.size ≤ maxLen) (hp : Pr w x m A) (hk : kd = 1 ∨ kd = 2 ∨ kd = 3) :
    Calls Try.prog 19 #[.agg #[.pointer (some ⟨x, 0, none⟩), .pointer (some ⟨m, 0, none⟩)], .agg #[.int .i64 kd, .int .i64 W, .string s, .string t, .string u]] w fun e w' => ∃ (n : Nat) (A' : List Al.St), e = .returned (.int .i64 n) ∧ (n ≠ 0 → A' = A) ∧ Pr w' x m A' ∧ Fr x m w w' := by
  rcases hk with rfl | rfl | rfl
  · exact (changed_load x m A 1 W s t u w hs hp rfl).mono fun e w' ⟨h1, h2, h3⟩ => ⟨_, _, h1, chLoad_same, h2, h3⟩
  · exact (changed_add x m A 2 W s t u w hs hp rfl).mono fun e w' ⟨h1, h2, h3⟩ => ⟨_, _, h1, chAdd_same, h2, h3⟩
  · exact (changed_drop x m A 3 W s t u w hs hp (by decide) (by decide)).mono fun e w' ⟨h1, h2, h3⟩ => ⟨_, _, h1, chDrop_same, h2, h3⟩
end Go.Proofs.Ytmjlcajcobbcgaa
