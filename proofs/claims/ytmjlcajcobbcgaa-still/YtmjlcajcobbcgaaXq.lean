import Derived.Test.YtmjlcajcobbcgaaXp
import Derived.Test.YtmjlcajcobbcgaaYAsk
namespace Go.Proofs.Ytmjlcajcobbcgaa
open Go.RowKit

theorem cat_ge {A : List Al.St} (h : ∀ a ∈ A, Al.Wf a) : 4 * A.length ≤ (cat A).length := (Al.catL_len h).1
theorem Pr.len {w : World} {x m : Nat} {A : List Al.St} (h : Pr w x m A) : ∃ ao c, w.cell? ⟨m, 0, none⟩ = some (.slice ao A.length c) := by
  obtain ⟨v, hv, hr⟩ := h.r.ex
  obtain ⟨ao, c, rfl⟩ := rdS_len hr
  rw [List.length_map] at hv
  exact ⟨ao, c, cell_of_one hv⟩

set_option maxRecDepth 100000 in
set_option maxHeartbeats 4000000 in
theorem Still_scr (hRf : RefineOk) (hWy : WhyOk) (g off len cap : Nat) (KD W : Nat → Int) (S T U : Nat → ByteArray) (w : World) (hg : g < w.heap.size) (hc : Scr w g off len KD W S T U) :
    Calls Try.prog 5 #[.slice (some ⟨g, off, none⟩) len cap] w fun e w' => e = .returned (.bool true) ∧ Below w.heap.size w w' := by
  have HM := hid (made_zero none 0 w)
  have HC := hid hc
  have HRW := hid (And.intro hRf hWy)
  have hbt := bs_toList
  clear hc hRf hWy
  go_enter Try.func5, Try.ntmps5
  go_wp2_with fail
  refine HM.out.mono ?_
  rintro e w1 ⟨x, rfl, hx1, hxs, hb1⟩
  have hp1 : Pr (w1.alloc (.cells #[.slice none 0 0] 31)) x w1.heap.size [] :=
    ⟨hx1.below ((Below.refl _ _).alloc (Nat.le_refl _) _), ⟨.slice none 0 0, heap_alloc_new w1 _, nil_R _⟩, Al.good_nil, by simp⟩
  have hb2 : Below w.heap.size w (w1.alloc (.cells #[.slice none 0 0] 31)) := hb1.alloc hb1.size _
  have hms : w.heap.size ≤ w1.heap.size := hb1.size
  clear hx1 hb1
  go_wp2_with fail
  generalize w1.alloc (.cells #[.slice none 0 0] 31) = W1 at *
  generalize w1.heap.size = m at *
  go_loopw [6] (fun i wr => ∃ k : Nat, k ≤ len ∧ i = .int .i64 k ∧ (∃ A, Pr wr x m A) ∧ Below w.heap.size w wr) (fun i _ => len - (intOf i).toNat)
  case atStart => exact ⟨0, Nat.zero_le _, rfl, ⟨[], hp1⟩, hb2⟩
  case round =>
    clear hp1 hb2
    obtain ⟨k, hk, rfl, ⟨A, hp⟩, hbel⟩ := hrel
    have hsz := hbel.size
    by_cases hlt : k < len
    · by_cases hmax : (k : Int) < 1152921504606846976
      · obtain ⟨c0, c1, c2, c3, c4, hs, hts, hus⟩ := HC.out k hlt
        have d0 := cell_below hbel c0 hg
        have d1 := cell_below hbel c1 hg
        have d2 := cell_below hbel c2 hg
        have d3 := cell_below hbel c3 hg
        have d4 := cell_below hbel c4 hg
        obtain ⟨Sk, hSk⟩ : ∃ q, S k = q := ⟨_, rfl⟩
        obtain ⟨Tk, hTk⟩ : ∃ q, T k = q := ⟨_, rfl⟩
        obtain ⟨Uk, hUk⟩ : ∃ q, U k = q := ⟨_, rfl⟩
        obtain ⟨Wk, hWk⟩ : ∃ q, W k = q := ⟨_, rfl⟩
        obtain ⟨kd, hkd⟩ : ∃ q, KD k = q := ⟨_, rfl⟩
        rw [hkd] at d0
        rw [hWk] at d1
        rw [hSk] at d2 hs
        rw [hTk] at d3 hts
        rw [hUk] at d4 hus
        have HS := hid (And.intro hs (And.intro hts hus))
        have HBL := hid hbel
        have HP := hid hp
        have HPR := hid (fun A wx (h : Pr wx x m A) => aPrint_any x A wx h.a h.small)
        have HBA := hid (fun A wx (h : Pr wx x m A) => aBatch_any x A wx h.a h.good h.small)
        clear c0 c1 c2 c3 c4 hSk hTk hUk hWk hkd hbel hp hs hts hus
        go_wp2_with fail
        have hO := heap_alloc_new wr (.cells #[.int .i64 kd, .int .i64 Wk, .string Sk, .string Tk, .string Uk] 33)
        have hbO := (Below.refl wr.heap.size wr).alloc (Nat.le_refl _) (.cells #[.int .i64 kd, .int .i64 Wk, .string Sk, .string Tk, .string Uk] 33)
        generalize wr.alloc (.cells #[.int .i64 kd, .int .i64 Wk, .string Sk, .string Tk, .string Uk] 33) = W0 at *
        refine (HPR.out A _ (HP.out.below hbO)).mono ?_
        rintro e w3 ⟨rfl, hb3⟩
        have hbO3 := hbO.trans (hb3.mono hbO.size)
        clear d0 d1 d2 d3 d4
        go_wp2_with fail
        refine (HBA.out A _ (HP.out.below hbO3)).mono ?_
        rintro e w4 ⟨rfl, hb4⟩
        have hb04 := hb3.trans (hb4.mono hb3.size)
        have hlO := lt_of_block hO
        have y0 := cell_below hb04 (block_cell (j := 0) hO) hlO
        have y1 := cell_below hb04 (block_cell (j := 1) hO) hlO
        have y2 := cell_below hb04 (block_cell (j := 2) hO) hlO
        have y3 := cell_below hb04 (block_cell (j := 3) hO) hlO
        have y4 := cell_below hb04 (block_cell (j := 4) hO) hlO
        have hlO4 : wr.heap.size < w4.heap.size := Nat.lt_of_lt_of_le hlO hb04.size
        have hw4 := hbO.trans (hb04.mono hbO.size)
        have HP4 := hid (HP.out.below hw4)
        have hB4 := HBL.out.trans (hw4.mono hsz)
        have HB4 := hid hB4
        have hz4 := hB4.size
        clear hb3 hb4 hb04 hO hbO hbO3 hlO hw4 hB4
        by_cases k1 : kd = 1
        · subst k1
          go_wp2_with fail
          have hwW := (Below.refl w4.heap.size w4).alloc (Nat.le_refl _) (.cells #[.pointer (some ⟨x, 0, none⟩), .pointer (some ⟨m, 0, none⟩)] 36)
          have hpW := HP4.out.below hwW
          have hBW := HB4.out.trans (hwW.mono HB4.out.size)
          generalize w4.alloc (.cells #[.pointer (some ⟨x, 0, none⟩), .pointer (some ⟨m, 0, none⟩)] 36) = W5 at *
          refine (changed_any x m A 1 Wk Sk Tk Uk _ HS.out.1 hpW (by omega)).mono ?_
          rintro e w5 ⟨n, A', rfl, hsame, hp5, hf5⟩
          have hB5 := hBW.trans (hf5.below hBW.size hxs hms)
          clear y0 y1 y2 y3 y4 hwW hpW hBW hf5
          by_cases hn : n = 0
          · subst hn
            clear hsame
            go_wp2_with fail
            refine (HPR.out A' _ hp5).mono ?_
            rintro e w6 ⟨rfl, hb6⟩
            have hp6 := hp5.below hb6
            have hB6 := hB5.trans (hb6.mono hB5.size)
            have HP6 := hid hp6
            have HB6 := hid hB6
            clear hb6 hp5 hB5 hp6 hB6
            go_wp2_with fail
            refine (HBA.out A' _ HP6.out).mono ?_
            rintro e w7 ⟨rfl, hb7⟩
            have hp7 := HP6.out.below hb7
            have hB7 := HB6.out.trans (hb7.mono HB6.out.size)
            obtain ⟨ao, c, hml⟩ := hp7.len
            have hge := cat_ge hp7.good.1
            have hsm := hp7.small
            have hle := cat_le A'
            have hcz : (bs (cat A')).size = (cat A').length := rfl
            have hw1 : IntKind.i64.wrap ((k : Int) + 1) = (k : Int) + 1 := IntWalk.i64_in _ ⟨by omega, by omega⟩
            have hw2 : IntKind.i64.wrap (4 * (A'.length : Int)) = 4 * (A'.length : Int) := IntWalk.i64_in _ ⟨by omega, by omega⟩
            have HP7 := hid hp7
            have HB7 := hid hB7
            clear hb7 hp7 hB7 hmax
            go_wp2_with fail
            exact ⟨⟨k + 1, by omega, by go_num, ⟨A', HP7.out⟩, HB7.out⟩, by simp [intOf]; omega⟩
          · have hnb : ((n : Int) != 0) = true := by rw [bne_iff_ne]; omega
            have hAA := hsame hn
            subst hAA
            clear hsame hn
            go_wp2_with fail
            refine (HPR.out A' _ hp5).mono ?_
            rintro e w6 ⟨rfl, hb6⟩
            have hp6 := hp5.below hb6
            have hB6 := hB5.trans (hb6.mono hB5.size)
            have HP6 := hid hp6
            have HB6 := hid hB6
            clear hb6 hp5 hB5 hp6 hB6
            go_wp2_with fail
            refine (HBA.out A' _ HP6.out).mono ?_
            rintro e w7 ⟨rfl, hb7⟩
            have hp7 := HP6.out.below hb7
            have hB7 := HB6.out.trans (hb7.mono HB6.out.size)
            obtain ⟨ao, c, hml⟩ := hp7.len
            have hge := cat_ge hp7.good.1
            have hsm := hp7.small
            have hle := cat_le A'
            have hcz : (bs (cat A')).size = (cat A').length := rfl
            have hw1 : IntKind.i64.wrap ((k : Int) + 1) = (k : Int) + 1 := IntWalk.i64_in _ ⟨by omega, by omega⟩
            have hw2 : IntKind.i64.wrap (4 * (A'.length : Int)) = 4 * (A'.length : Int) := IntWalk.i64_in _ ⟨by omega, by omega⟩
            have HP7 := hid hp7
            have HB7 := hid hB7
            clear hb7 hp7 hB7 hmax
            go_wp2_with fail
            exact ⟨⟨k + 1, by omega, by go_num, ⟨A', HP7.out⟩, HB7.out⟩, by simp [intOf]; omega⟩
        by_cases k2 : kd = 2
        · subst k2
          go_wp2_with fail
          have hwW := (Below.refl w4.heap.size w4).alloc (Nat.le_refl _) (.cells #[.pointer (some ⟨x, 0, none⟩), .pointer (some ⟨m, 0, none⟩)] 36)
          have hpW := HP4.out.below hwW
          have hBW := HB4.out.trans (hwW.mono HB4.out.size)
          generalize w4.alloc (.cells #[.pointer (some ⟨x, 0, none⟩), .pointer (some ⟨m, 0, none⟩)] 36) = W5 at *
          refine (changed_any x m A 2 Wk Sk Tk Uk _ HS.out.1 hpW (by omega)).mono ?_
          rintro e w5 ⟨n, A', rfl, hsame, hp5, hf5⟩
          have hB5 := hBW.trans (hf5.below hBW.size hxs hms)
          clear y0 y1 y2 y3 y4 hwW hpW hBW hf5
          by_cases hn : n = 0
          · subst hn
            clear hsame
            go_wp2_with fail
            refine (HPR.out A' _ hp5).mono ?_
            rintro e w6 ⟨rfl, hb6⟩
            have hp6 := hp5.below hb6
            have hB6 := hB5.trans (hb6.mono hB5.size)
            have HP6 := hid hp6
            have HB6 := hid hB6
            clear hb6 hp5 hB5 hp6 hB6
            go_wp2_with fail
            refine (HBA.out A' _ HP6.out).mono ?_
            rintro e w7 ⟨rfl, hb7⟩
            have hp7 := HP6.out.below hb7
            have hB7 := HB6.out.trans (hb7.mono HB6.out.size)
            obtain ⟨ao, c, hml⟩ := hp7.len
            have hge := cat_ge hp7.good.1
            have hsm := hp7.small
            have hle := cat_le A'
            have hcz : (bs (cat A')).size = (cat A').length := rfl
            have hw1 : IntKind.i64.wrap ((k : Int) + 1) = (k : Int) + 1 := IntWalk.i64_in _ ⟨by omega, by omega⟩
            have hw2 : IntKind.i64.wrap (4 * (A'.length : Int)) = 4 * (A'.length : Int) := IntWalk.i64_in _ ⟨by omega, by omega⟩
            have HP7 := hid hp7
            have HB7 := hid hB7
            clear hb7 hp7 hB7 hmax
            go_wp2_with fail
            exact ⟨⟨k + 1, by omega, by go_num, ⟨A', HP7.out⟩, HB7.out⟩, by simp [intOf]; omega⟩
          · have hnb : ((n : Int) != 0) = true := by rw [bne_iff_ne]; omega
            have hAA := hsame hn
            subst hAA
            clear hsame hn
            go_wp2_with fail
            refine (HPR.out A' _ hp5).mono ?_
            rintro e w6 ⟨rfl, hb6⟩
            have hp6 := hp5.below hb6
            have hB6 := hB5.trans (hb6.mono hB5.size)
            have HP6 := hid hp6
            have HB6 := hid hB6
            clear hb6 hp5 hB5 hp6 hB6
            go_wp2_with fail
            refine (HBA.out A' _ HP6.out).mono ?_
            rintro e w7 ⟨rfl, hb7⟩
            have hp7 := HP6.out.below hb7
            have hB7 := HB6.out.trans (hb7.mono HB6.out.size)
            obtain ⟨ao, c, hml⟩ := hp7.len
            have hge := cat_ge hp7.good.1
            have hsm := hp7.small
            have hle := cat_le A'
            have hcz : (bs (cat A')).size = (cat A').length := rfl
            have hw1 : IntKind.i64.wrap ((k : Int) + 1) = (k : Int) + 1 := IntWalk.i64_in _ ⟨by omega, by omega⟩
            have hw2 : IntKind.i64.wrap (4 * (A'.length : Int)) = 4 * (A'.length : Int) := IntWalk.i64_in _ ⟨by omega, by omega⟩
            have HP7 := hid hp7
            have HB7 := hid hB7
            clear hb7 hp7 hB7 hmax
            go_wp2_with fail
            exact ⟨⟨k + 1, by omega, by go_num, ⟨A', HP7.out⟩, HB7.out⟩, by simp [intOf]; omega⟩
        by_cases k3 : kd = 3
        · subst k3
          go_wp2_with fail
          have hwW := (Below.refl w4.heap.size w4).alloc (Nat.le_refl _) (.cells #[.pointer (some ⟨x, 0, none⟩), .pointer (some ⟨m, 0, none⟩)] 36)
          have hpW := HP4.out.below hwW
          have hBW := HB4.out.trans (hwW.mono HB4.out.size)
          generalize w4.alloc (.cells #[.pointer (some ⟨x, 0, none⟩), .pointer (some ⟨m, 0, none⟩)] 36) = W5 at *
          refine (changed_any x m A 3 Wk Sk Tk Uk _ HS.out.1 hpW (by omega)).mono ?_
          rintro e w5 ⟨n, A', rfl, hsame, hp5, hf5⟩
          have hB5 := hBW.trans (hf5.below hBW.size hxs hms)
          clear y0 y1 y2 y3 y4 hwW hpW hBW hf5
          by_cases hn : n = 0
          · subst hn
            clear hsame
            go_wp2_with fail
            refine (HPR.out A' _ hp5).mono ?_
            rintro e w6 ⟨rfl, hb6⟩
            have hp6 := hp5.below hb6
            have hB6 := hB5.trans (hb6.mono hB5.size)
            have HP6 := hid hp6
            have HB6 := hid hB6
            clear hb6 hp5 hB5 hp6 hB6
            go_wp2_with fail
            refine (HBA.out A' _ HP6.out).mono ?_
            rintro e w7 ⟨rfl, hb7⟩
            have hp7 := HP6.out.below hb7
            have hB7 := HB6.out.trans (hb7.mono HB6.out.size)
            obtain ⟨ao, c, hml⟩ := hp7.len
            have hge := cat_ge hp7.good.1
            have hsm := hp7.small
            have hle := cat_le A'
            have hcz : (bs (cat A')).size = (cat A').length := rfl
            have hw1 : IntKind.i64.wrap ((k : Int) + 1) = (k : Int) + 1 := IntWalk.i64_in _ ⟨by omega, by omega⟩
            have hw2 : IntKind.i64.wrap (4 * (A'.length : Int)) = 4 * (A'.length : Int) := IntWalk.i64_in _ ⟨by omega, by omega⟩
            have HP7 := hid hp7
            have HB7 := hid hB7
            clear hb7 hp7 hB7 hmax
            go_wp2_with fail
            exact ⟨⟨k + 1, by omega, by go_num, ⟨A', HP7.out⟩, HB7.out⟩, by simp [intOf]; omega⟩
          · have hnb : ((n : Int) != 0) = true := by rw [bne_iff_ne]; omega
            have hAA := hsame hn
            subst hAA
            clear hsame hn
            go_wp2_with fail
            refine (HPR.out A' _ hp5).mono ?_
            rintro e w6 ⟨rfl, hb6⟩
            have hp6 := hp5.below hb6
            have hB6 := hB5.trans (hb6.mono hB5.size)
            have HP6 := hid hp6
            have HB6 := hid hB6
            clear hb6 hp5 hB5 hp6 hB6
            go_wp2_with fail
            refine (HBA.out A' _ HP6.out).mono ?_
            rintro e w7 ⟨rfl, hb7⟩
            have hp7 := HP6.out.below hb7
            have hB7 := HB6.out.trans (hb7.mono HB6.out.size)
            obtain ⟨ao, c, hml⟩ := hp7.len
            have hge := cat_ge hp7.good.1
            have hsm := hp7.small
            have hle := cat_le A'
            have hcz : (bs (cat A')).size = (cat A').length := rfl
            have hw1 : IntKind.i64.wrap ((k : Int) + 1) = (k : Int) + 1 := IntWalk.i64_in _ ⟨by omega, by omega⟩
            have hw2 : IntKind.i64.wrap (4 * (A'.length : Int)) = 4 * (A'.length : Int) := IntWalk.i64_in _ ⟨by omega, by omega⟩
            have HP7 := hid hp7
            have HB7 := hid hB7
            clear hb7 hp7 hB7 hmax
            go_wp2_with fail
            exact ⟨⟨k + 1, by omega, by go_num, ⟨A', HP7.out⟩, HB7.out⟩, by simp [intOf]; omega⟩
        by_cases k5 : kd = 5
        · subst k5
          have hpo := fun wx (h : Pr wx x m A) => aPoints_any x A Sk.data.toList Tk.data.toList wx h.a h.good h.small HS.out.2.1
          simp only [bs_back] at hpo
          have HPO := hid hpo
          clear hpo
          go_wp2_with fail
          refine (HPO.out _ HP4.out).mono ?_
          rintro e w5 ⟨rfl, hb5⟩
          have hp5 := HP4.out.below hb5
          have hB5 := HB4.out.trans (hb5.mono HB4.out.size)
          clear hb5 y0 y1 y2 y3 y4
          go_wp2_with fail
          refine (HPR.out A _ hp5).mono ?_
          rintro e w6 ⟨rfl, hb6⟩
          have hp6 := hp5.below hb6
          have hB6 := hB5.trans (hb6.mono hB5.size)
          have HP6 := hid hp6
          have HB6 := hid hB6
          clear hb6 hp5 hB5 hp6 hB6
          go_wp2_with fail
          refine (HBA.out A _ HP6.out).mono ?_
          rintro e w7 ⟨rfl, hb7⟩
          have hp7 := HP6.out.below hb7
          have hB7 := HB6.out.trans (hb7.mono HB6.out.size)
          obtain ⟨ao, c, hml⟩ := hp7.len
          have hge := cat_ge hp7.good.1
          have hsm := hp7.small
          have hle := cat_le A
          have hcz : (bs (cat A)).size = (cat A).length := rfl
          have hw1 : IntKind.i64.wrap ((k : Int) + 1) = (k : Int) + 1 := IntWalk.i64_in _ ⟨by omega, by omega⟩
          have hw2 : IntKind.i64.wrap (4 * (A.length : Int)) = 4 * (A.length : Int) := IntWalk.i64_in _ ⟨by omega, by omega⟩
          have HP7 := hid hp7
          have HB7 := hid hB7
          clear hb7 hp7 hB7 hmax
          go_wp2_with fail
          exact ⟨⟨k + 1, by omega, by go_num, ⟨A, HP7.out⟩, HB7.out⟩, by simp [intOf]; omega⟩
        by_cases k6 : kd = 6
        · subst k6
          have hpo := fun wx (h : Pr wx x m A) => aAlias_any x A Sk.data.toList Tk.data.toList Uk.data.toList wx h.a h.good h.small HS.out.2.2
          simp only [bs_back] at hpo
          have HPO := hid hpo
          clear hpo
          go_wp2_with fail
          refine (HPO.out _ HP4.out).mono ?_
          rintro e w5 ⟨rfl, hb5⟩
          have hp5 := HP4.out.below hb5
          have hB5 := HB4.out.trans (hb5.mono HB4.out.size)
          clear hb5 y0 y1 y2 y3 y4
          go_wp2_with fail
          refine (HPR.out A _ hp5).mono ?_
          rintro e w6 ⟨rfl, hb6⟩
          have hp6 := hp5.below hb6
          have hB6 := hB5.trans (hb6.mono hB5.size)
          have HP6 := hid hp6
          have HB6 := hid hB6
          clear hb6 hp5 hB5 hp6 hB6
          go_wp2_with fail
          refine (HBA.out A _ HP6.out).mono ?_
          rintro e w7 ⟨rfl, hb7⟩
          have hp7 := HP6.out.below hb7
          have hB7 := HB6.out.trans (hb7.mono HB6.out.size)
          obtain ⟨ao, c, hml⟩ := hp7.len
          have hge := cat_ge hp7.good.1
          have hsm := hp7.small
          have hle := cat_le A
          have hcz : (bs (cat A)).size = (cat A).length := rfl
          have hw1 : IntKind.i64.wrap ((k : Int) + 1) = (k : Int) + 1 := IntWalk.i64_in _ ⟨by omega, by omega⟩
          have hw2 : IntKind.i64.wrap (4 * (A.length : Int)) = 4 * (A.length : Int) := IntWalk.i64_in _ ⟨by omega, by omega⟩
          have HP7 := hid hp7
          have HB7 := hid hB7
          clear hb7 hp7 hB7 hmax
          go_wp2_with fail
          exact ⟨⟨k + 1, by omega, by go_num, ⟨A, HP7.out⟩, HB7.out⟩, by simp [intOf]; omega⟩
        by_cases k8 : kd = 8
        · subst k8
          have hpo := fun wx (h : Pr wx x m A) => HRW.out.1 x A Sk.data.toList wx h.a h.good h.small
          simp only [bs_back] at hpo
          have HPO := hid hpo
          clear hpo
          go_wp2_with fail
          refine (HPO.out _ HP4.out).mono ?_
          rintro e w5 ⟨rfl, hb5⟩
          have hp5 := HP4.out.below hb5
          have hB5 := HB4.out.trans (hb5.mono HB4.out.size)
          clear hb5 y0 y1 y2 y3 y4
          go_wp2_with fail
          refine (HPR.out A _ hp5).mono ?_
          rintro e w6 ⟨rfl, hb6⟩
          have hp6 := hp5.below hb6
          have hB6 := hB5.trans (hb6.mono hB5.size)
          have HP6 := hid hp6
          have HB6 := hid hB6
          clear hb6 hp5 hB5 hp6 hB6
          go_wp2_with fail
          refine (HBA.out A _ HP6.out).mono ?_
          rintro e w7 ⟨rfl, hb7⟩
          have hp7 := HP6.out.below hb7
          have hB7 := HB6.out.trans (hb7.mono HB6.out.size)
          obtain ⟨ao, c, hml⟩ := hp7.len
          have hge := cat_ge hp7.good.1
          have hsm := hp7.small
          have hle := cat_le A
          have hcz : (bs (cat A)).size = (cat A).length := rfl
          have hw1 : IntKind.i64.wrap ((k : Int) + 1) = (k : Int) + 1 := IntWalk.i64_in _ ⟨by omega, by omega⟩
          have hw2 : IntKind.i64.wrap (4 * (A.length : Int)) = 4 * (A.length : Int) := IntWalk.i64_in _ ⟨by omega, by omega⟩
          have HP7 := hid hp7
          have HB7 := hid hB7
          clear hb7 hp7 hB7 hmax
          go_wp2_with fail
          exact ⟨⟨k + 1, by omega, by go_num, ⟨A, HP7.out⟩, HB7.out⟩, by simp [intOf]; omega⟩
        by_cases k9 : kd = 9
        · subst k9
          have hpo := fun wx (h : Pr wx x m A) => HRW.out.2 x A Sk.data.toList Tk.data.toList wx h.a h.good h.small
          simp only [bs_back] at hpo
          have HPO := hid hpo
          clear hpo
          go_wp2_with fail
          refine (HPO.out _ HP4.out).mono ?_
          rintro e w5 ⟨t9, rfl, _, _, hb5⟩
          have hp5 := HP4.out.below hb5
          have hB5 := HB4.out.trans (hb5.mono HB4.out.size)
          clear hb5 y0 y1 y2 y3 y4
          go_wp2_with fail
          refine (HPR.out A _ hp5).mono ?_
          rintro e w6 ⟨rfl, hb6⟩
          have hp6 := hp5.below hb6
          have hB6 := hB5.trans (hb6.mono hB5.size)
          have HP6 := hid hp6
          have HB6 := hid hB6
          clear hb6 hp5 hB5 hp6 hB6
          go_wp2_with fail
          refine (HBA.out A _ HP6.out).mono ?_
          rintro e w7 ⟨rfl, hb7⟩
          have hp7 := HP6.out.below hb7
          have hB7 := HB6.out.trans (hb7.mono HB6.out.size)
          obtain ⟨ao, c, hml⟩ := hp7.len
          have hge := cat_ge hp7.good.1
          have hsm := hp7.small
          have hle := cat_le A
          have hcz : (bs (cat A)).size = (cat A).length := rfl
          have hw1 : IntKind.i64.wrap ((k : Int) + 1) = (k : Int) + 1 := IntWalk.i64_in _ ⟨by omega, by omega⟩
          have hw2 : IntKind.i64.wrap (4 * (A.length : Int)) = 4 * (A.length : Int) := IntWalk.i64_in _ ⟨by omega, by omega⟩
          have HP7 := hid hp7
          have HB7 := hid hB7
          clear hb7 hp7 hB7 hmax
          go_wp2_with fail
          exact ⟨⟨k + 1, by omega, by go_num, ⟨A, HP7.out⟩, HB7.out⟩, by simp [intOf]; omega⟩
        · have b1 : (kd == 1) = false := beq_eq_false_iff_ne.2 k1
          have b2 : (kd == 2) = false := beq_eq_false_iff_ne.2 k2
          have b3 : (kd == 3) = false := beq_eq_false_iff_ne.2 k3
          have b5 : (kd == 5) = false := beq_eq_false_iff_ne.2 k5
          have b6 : (kd == 6) = false := beq_eq_false_iff_ne.2 k6
          have b8 : (kd == 8) = false := beq_eq_false_iff_ne.2 k8
          have b9 : (kd == 9) = false := beq_eq_false_iff_ne.2 k9
          have hp5 := HP4.out
          have hB5 := HB4.out
          clear k1 k2 k3 k5 k6 k8 k9
          go_wp2_with fail
          refine (HPR.out A _ hp5).mono ?_
          rintro e w6 ⟨rfl, hb6⟩
          have hp6 := hp5.below hb6
          have hB6 := hB5.trans (hb6.mono hB5.size)
          have HP6 := hid hp6
          have HB6 := hid hB6
          clear hb6 hp5 hB5 hp6 hB6
          go_wp2_with fail
          refine (HBA.out A _ HP6.out).mono ?_
          rintro e w7 ⟨rfl, hb7⟩
          have hp7 := HP6.out.below hb7
          have hB7 := HB6.out.trans (hb7.mono HB6.out.size)
          obtain ⟨ao, c, hml⟩ := hp7.len
          have hge := cat_ge hp7.good.1
          have hsm := hp7.small
          have hle := cat_le A
          have hcz : (bs (cat A)).size = (cat A).length := rfl
          have hw1 : IntKind.i64.wrap ((k : Int) + 1) = (k : Int) + 1 := IntWalk.i64_in _ ⟨by omega, by omega⟩
          have hw2 : IntKind.i64.wrap (4 * (A.length : Int)) = 4 * (A.length : Int) := IntWalk.i64_in _ ⟨by omega, by omega⟩
          have HP7 := hid hp7
          have HB7 := hid hB7
          clear hb7 hp7 hB7 hmax
          go_wp2_with fail
          exact ⟨⟨k + 1, by omega, by go_num, ⟨A, HP7.out⟩, HB7.out⟩, by simp [intOf]; omega⟩
      · have hd2 : decide ((k : Int) < 1152921504606846976) = false := by simpa using hmax
        clear hmax
        go_wp2_with fail
        go_ret
        exact ⟨rfl, hbel⟩
    · have hd : decide ((k : Int) < (len : Int)) = false := by simp; omega
      go_wp2_with fail
      go_ret
      exact ⟨rfl, hbel⟩
theorem Still_some (hRf : RefineOk) (hWy : WhyOk) (g off len cap : Nat) (w : World) (hg : g < w.heap.size) (_hlc : len ≤ cap) (_hcm : cap ≤ 9223372036854775807)
    (hc : ∀ k, k < len → ∃ (kd W : Int) (s t u : ByteArray), w.cell? ⟨g, off + k * 5, none⟩ = some (.int .i64 kd) ∧ w.cell? ⟨g, off + k * 5 + 1, none⟩ = some (.int .i64 W) ∧ w.cell? ⟨g, off + k * 5 + 2, none⟩ = some (.string s) ∧ w.cell? ⟨g, off + k * 5 + 3, none⟩ = some (.string t) ∧ w.cell? ⟨g, off + k * 5 + 4, none⟩ = some (.string u) ∧ s.size ≤ maxLen ∧ t.size ≤ maxLen ∧ u.size ≤ maxLen) :
    Calls Try.prog 5 #[.slice (some ⟨g, off, none⟩) len cap] w fun e w' => e = .returned (.bool true) ∧ Below w.heap.size w w' := by
  obtain ⟨KD, W, S, T, U, h⟩ := scr_of hc
  exact Still_scr hRf hWy g off len cap KD W S T U w hg h
set_option maxRecDepth 100000 in
set_option maxHeartbeats 1000000 in
theorem Still_zero (_hRf : RefineOk) (_hWy : WhyOk) (ao : Option Addr) (cap : Nat) (w : World) :
    Calls Try.prog 5 #[.slice ao 0 cap] w fun e w' => e = .returned (.bool true) ∧ Below w.heap.size w w' := by
  have HM := hid (made_zero none 0 w)
  go_enter Try.func5, Try.ntmps5
  go_wp2_with fail
  refine HM.out.mono ?_
  rintro e w1 ⟨x, rfl, hx1, hxs, hb1⟩
  go_wp2_with fail
  refine wp_loop_rounds 1 ?_
  rw [rounds_succ]
  go_wp2_with fail
  go_ret
  exact ⟨rfl, hb1.alloc hb1.size _⟩
end Go.Proofs.Ytmjlcajcobbcgaa
