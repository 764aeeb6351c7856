import Derived.Test.YtmjlcajcobbcgaaXr
import Derived.Test.YtmjlcajcobbcgaaYAsk
namespace Go.Proofs.Ytmjlcajcobbcgaa
open Go.RowKit

theorem ASess.other {w w' : World} {b y : Nat} {A : List Al.St} {vy : Value} (h : ASess w b A) (hf : w.grownBy w' (some y)) (hne : b ≠ y) (hy : w.heap[y]? = some (.cells #[vy] 70 (0, 0))) : ASess w' b A := by
  obtain ⟨v, h1, h2⟩ := h.ex
  refine ⟨v, by rw [hf.block b (lt_of_block h1) (by simpa using hne)]; exact h1, ownsRow_stays h2 fun g cur hg => hf.block g (lt_of_block hg) (fun e => ?_)⟩
  simp at e; rw [e, hy] at hg; simp at hg
theorem batch_mem (A : List Al.St) (v : Nat) (hn : namedP A v = true) : ∀ k, v < k → batchTo A k ≠ []
  | 0, h => by omega
  | k + 1, h => by
    rw [batch_succ]
    by_cases e : v = k
    · subst e
      rw [if_pos hn]
      simp [itemP]
    · intro h0
      rw [List.append_eq_nil_iff] at h0
      exact batch_mem A v hn k (by omega) h0.1
theorem batch_empty {A : List Al.St} (hA : ∀ s ∈ A, Al.Wf s) : (batchP A != []) = decide (0 < A.length) := by
  cases A with
  | nil => decide
  | cons s A =>
    have hw := hA s (by simp)
    have hv := hw.1
    have h1 := batch_mem (s :: A) (Al.vi s.2.1) (named_x hA (by simp) hv) 12 (vi_lt hv)
    have h2 : batchP (s :: A) ≠ [] := h1
    simp [h2]
theorem load_own {A : List Al.St} (h : Al.Good A) (hl : A.length ≤ 24) : Al.loadP (bs (cat A)).data.toList = (0, 0, A) := Al.load_back h hl

/-- Two reasons for the same: neither is empty, or both are. -/
theorem why_same {A : List Al.St} {l o t r : List UInt8} (h1 : whyE A l o ≠ 0 → t = []) (h2 : ∀ c d, l = [c] → o = [d] → whyE A l o = 0 → t ≠ []) (k1 : whyE A l o ≠ 0 → r = []) (k2 : ∀ c d, l = [c] → o = [d] → whyE A l o = 0 → r ≠ []) : t.isEmpty = r.isEmpty := by
  by_cases e : whyE A l o = 0
  · obtain ⟨c, d, hl, ho⟩ := whyE_zero e
    have a1 := h2 c d hl ho e
    have a2 := k2 c d hl ho e
    cases t with
    | nil => exact absurd rfl a1
    | cons _ _ =>
      cases r with
      | nil => exact absurd rfl a2
      | cons _ _ => rfl
  · rw [h1 e, k1 e]

set_option maxRecDepth 100000 in
set_option maxHeartbeats 4000000 in
theorem Anew_scr (hWy : WhyOk) (g off len cap : Nat) (KD W : Nat → Int) (S T U : Nat → ByteArray) (w : World) (hg : g < w.heap.size) (hlc : len ≤ cap) (hcm : cap ≤ 9223372036854775807) (hc : Scr w g off len KD W S T U) :
    Calls Try.prog 13 #[.slice (some ⟨g, off, none⟩) len cap] w fun e w' => e = .returned (.bool true) ∧ Below w.heap.size w w' := by
  have HM := hid (made_some g off len cap KD W S T U w hg hlc hcm hc)
  have HC := hid hc
  obtain ⟨hgo, hsm⟩ := play_ok KD S (cut len)
  have HL := hid (fun x wx (hgx : g < wx.heap.size) (hcx : Scr wx g off len KD W S T U) (hx : ASess wx x (playP KD S (cut len))) => list_some x g off len cap KD W S T U wx hgx hlc hcm hcx hx)
  generalize playP KD S (cut len) = A at *
  have HGO := hid hgo
  have HWO := hid hWy
  have HN := hid New_any
  have HNU := hid num_any
  have hbt := bs_toList
  have hbe := batch_empty hgo.1
  have HLO := hid (load_own hgo hsm)
  clear hc hgo hlc hcm hWy
  go_enter Try.func13, Try.ntmps13
  go_wp2_with fail
  refine HM.out.mono ?_
  rintro e w1 ⟨x, rfl, hx1, hxs, hb1⟩
  obtain ⟨vx, hvx⟩ := hx1.hd
  have hxl := lt_of_block hvx
  have HX1 := hid hx1
  have HB1 := hid hb1
  clear hx1 hb1 hvx
  go_wp2_with fail
  refine (HN.out _).mono ?_
  rintro e w2 ⟨rfl, hw2⟩
  have hb2 : Below w1.heap.size w1 w2 := by rw [hw2]; exact (Below.refl _ _).alloc (Nat.le_refl _) _
  have hy2 : ASess w2 w1.heap.size [] := by rw [hw2]; exact ⟨.slice none 0 0, heap_alloc_new w1 _, nil_A _⟩
  have hB2 := HB1.out.trans (hb2.mono HB1.out.size)
  have HX2 := hid (HX1.out.below hb2)
  have HY2 := hid hy2
  have HB2 := hid hB2
  have hys : w.heap.size ≤ w1.heap.size := HB1.out.size
  clear hw2 hb2 hy2 hB2
  generalize w1.heap.size = y at *
  have hxy : x ≠ y := by omega
  have HL2 := hid (HL.out x w2 (Nat.lt_of_lt_of_le hg HB2.out.size) (HC.out.below hg HB2.out) HX2.out)
  go_wp2_with fail
  refine HL2.out.mono ?_
  rintro e w3 ⟨v, rfl, hr3, hb3⟩
  obtain ⟨ao, c, hve⟩ := rdS_len hr3
  rw [List.length_map] at hve
  subst hve
  have HX3 := hid (HX2.out.below hb3)
  have HY3 := hid (HY2.out.below hb3)
  have HB3 := hid (HB2.out.trans (hb3.mono HB2.out.size))
  clear hr3 hb3
  go_wp2_with fail
  refine (aPrint_any x A _ HX3.out hsm).mono ?_
  rintro e w4 ⟨rfl, hb4⟩
  have HX4 := hid (HX3.out.below hb4)
  have HY4 := hid (HY3.out.below hb4)
  have HB4 := hid (HB3.out.trans (hb4.mono HB3.out.size))
  clear hb4
  go_wp2_with fail
  refine (aLoad_any y [] (bs (cat A)) _ (by have := cat_le A; show (cat A).length ≤ maxLen; unfold maxLen; omega) HY4.out).mono ?_
  rintro e w5 ⟨rfl, hy5, hg5⟩
  rw [HLO.out]
  have hch : chLoad (bs (cat A)).data.toList [] = A := by unfold chLoad; rw [HLO.out]; rfl
  rw [hch] at hy5
  obtain ⟨vy, hvy⟩ := HY4.out.hd
  have HX5 := hid (HX4.out.other hg5 hxy hvy)
  have HY5 := hid hy5
  have HB5 := hid (below_of_grown HB4.out hg5 HB4.out.size hys)
  clear hy5 hg5 hch hvy
  go_wp2_with fail
  refine (aPrint_any y A _ HY5.out hsm).mono ?_
  rintro e w6 ⟨rfl, hb6⟩
  have HX6 := hid (HX5.out.below hb6)
  have HY6 := hid (HY5.out.below hb6)
  have HB6 := hid (HB5.out.trans (hb6.mono HB5.out.size))
  clear hb6
  go_wp2_with fail
  refine (aBatch_any x A _ HX6.out HGO.out hsm).mono ?_
  rintro e w7 ⟨rfl, hb7⟩
  have HX7 := hid (HX6.out.below hb7)
  have HY7 := hid (HY6.out.below hb7)
  have HB7 := hid (HB6.out.trans (hb7.mono HB6.out.size))
  clear hb7
  go_wp2_with fail
  refine (aBatch_any y A _ HY7.out HGO.out hsm).mono ?_
  rintro e w8 ⟨rfl, hb8⟩
  have HX8 := hid (HX7.out.below hb8)
  have HY8 := hid (HY7.out.below hb8)
  have HB8 := hid (HB7.out.trans (hb8.mono HB7.out.size))
  clear hb8
  cases hnb : decide (0 < A.length) with
  | false =>
    have he2 : (batchP A).isEmpty = true := by
      rw [hnb] at hbe
      simpa using hbe
    clear hbe
    go_wp2_with (go_at_call 34; refine (HNU.out _ _).mono ?_; rintro e w' ⟨rfl, rfl⟩)
    go_loopw [14] (fun i wr => ∃ k : Nat, k ≤ len ∧ i = .int .i64 k ∧ ASess wr x A ∧ ASess wr y A ∧ Below w.heap.size w wr) (fun i _ => len - (intOf i).toNat)
    case atStart => exact ⟨0, Nat.zero_le _, rfl, HX8.out, HY8.out, HB8.out⟩
    case round =>
      obtain ⟨k, hk, rfl, hax, hay, hbel⟩ := hrel
      have hsz := hbel.size
      by_cases hlt : k < len
      · by_cases hmax : (k : Int) < 1152921504606846976
        · obtain ⟨c0, c1, c2, c3, c4, hs, hts, hus⟩ := HC.out k hlt
          have d0 := cell_below hbel c0 hg
          have d1 := cell_below hbel c1 hg
          have d2 := cell_below hbel c2 hg
          have d3 := cell_below hbel c3 hg
          have d4 := cell_below hbel c4 hg
          obtain ⟨Sk, hSk⟩ : ∃ q, S k = q := ⟨_, rfl⟩
          obtain ⟨Tk, hTk⟩ : ∃ q, T k = q := ⟨_, rfl⟩
          obtain ⟨Uk, hUk⟩ : ∃ q, U k = q := ⟨_, rfl⟩
          obtain ⟨Wk, hWk⟩ : ∃ q, W k = q := ⟨_, rfl⟩
          obtain ⟨kd, hkd⟩ : ∃ q, KD k = q := ⟨_, rfl⟩
          rw [hkd] at d0
          rw [hWk] at d1
          rw [hSk] at d2
          rw [hTk] at d3 hts
          rw [hUk] at d4
          have htl : Tk.data.toList.length ≤ 9223372036854775807 := hts
          have HS := hid (And.intro hs (And.intro hts hus))
          have HAX := hid hax
          have HAY := hid hay
          have HBL := hid hbel
          clear c0 c1 c2 c3 c4 hSk hTk hUk hWk hkd hbel hax hay hs hts hus
          by_cases k5 : kd = 5
          · subst k5
            have hpx := fun wx (h : ASess wx x A) => aPoints_any x A Sk.data.toList Tk.data.toList wx h HGO.out hsm htl
            have hpy := fun wx (h : ASess wx y A) => aPoints_any y A Sk.data.toList Tk.data.toList wx h HGO.out hsm htl
            simp only [bs_back] at hpx hpy
            generalize pointsP A Sk.data.toList Tk.data.toList = R at *
            obtain ⟨R1, R2, R3⟩ := R
            simp only at hpx hpy
            have HPX := hid hpx
            have HPY := hid hpy
            clear hpx hpy htl
            go_wp2_with fail
            have hO := heap_alloc_new wr (.cells #[.int .i64 5, .int .i64 Wk, .string Sk, .string Tk, .string Uk] 33)
            have hbO := (Below.refl wr.heap.size wr).alloc (Nat.le_refl _) (.cells #[.int .i64 5, .int .i64 Wk, .string Sk, .string Tk, .string Uk] 33)
            generalize wr.alloc (.cells #[.int .i64 5, .int .i64 Wk, .string Sk, .string Tk, .string Uk] 33) = W0 at *
            refine (HPX.out _ (HAX.out.below hbO)).mono ?_
            rintro e v3 ⟨rfl, hb3⟩
            have hlO := lt_of_block hO
            have y2 := cell_below hb3 (block_cell (j := 2) hO) hlO
            have y3 := cell_below hb3 (block_cell (j := 3) hO) hlO
            have hbO3 := hbO.trans (hb3.mono hbO.size)
            have hlO3 : wr.heap.size < v3.heap.size := Nat.lt_of_lt_of_le hlO hb3.size
            have HQ3 := hid hbO3
            clear hO hbO hb3 hlO hbO3 d0 d1 d2 d3 d4
            go_wp2_with fail
            refine (HPY.out _ (HAY.out.below HQ3.out)).mono ?_
            rintro e v4 ⟨rfl, hb4⟩
            have hq4 := HQ3.out.trans (hb4.mono HQ3.out.size)
            have hI : ASess v4 x A ∧ ASess v4 y A ∧ Below w.heap.size w v4 := ⟨HAX.out.below hq4, HAY.out.below hq4, HBL.out.trans (hq4.mono hsz)⟩
            clear hb4 hq4 y2 y3
            go_wp2_with fail
            go_roundw
            case rel => exact ⟨k + 1, by omega, by go_num, hI.1, hI.2.1, hI.2.2⟩
            case measure => simp [intOf]; omega
          by_cases k9 : kd = 9
          · subst k9
            have hpx := fun wx (h : ASess wx x A) => HWO.out x A Sk.data.toList Tk.data.toList wx h HGO.out hsm
            have hpy := fun wx (h : ASess wx y A) => HWO.out y A Sk.data.toList Tk.data.toList wx h HGO.out hsm
            simp only [bs_back] at hpx hpy
            have HPX := hid hpx
            have HPY := hid hpy
            clear k5 htl hpx hpy
            go_wp2_with fail
            have hO := heap_alloc_new wr (.cells #[.int .i64 9, .int .i64 Wk, .string Sk, .string Tk, .string Uk] 33)
            have hbO := (Below.refl wr.heap.size wr).alloc (Nat.le_refl _) (.cells #[.int .i64 9, .int .i64 Wk, .string Sk, .string Tk, .string Uk] 33)
            generalize wr.alloc (.cells #[.int .i64 9, .int .i64 Wk, .string Sk, .string Tk, .string Uk] 33) = W0 at *
            refine (HPX.out _ (HAX.out.below hbO)).mono ?_
            rintro e v3 ⟨t1, rfl, ht1, hr1, hb3⟩
            have hlO := lt_of_block hO
            have y2 := cell_below hb3 (block_cell (j := 2) hO) hlO
            have y3 := cell_below hb3 (block_cell (j := 3) hO) hlO
            have hbO3 := hbO.trans (hb3.mono hbO.size)
            have hlO3 : wr.heap.size < v3.heap.size := Nat.lt_of_lt_of_le hlO hb3.size
            have HQ3 := hid hbO3
            have HT1 := hid (And.intro ht1 (fun c d h1 h2 h3 => (hr1 c d h1 h2 h3).1))
            clear hO hbO hb3 hlO hbO3 d0 d1 d2 d3 d4 ht1 hr1
            go_wp2_with fail
            refine (HPY.out _ (HAY.out.below HQ3.out)).mono ?_
            rintro e v4 ⟨t2, rfl, ht2, hr2, hb4⟩
            have hq4 := HQ3.out.trans (hb4.mono HQ3.out.size)
            have hI : ASess v4 x A ∧ ASess v4 y A ∧ Below w.heap.size w v4 := ⟨HAX.out.below hq4, HAY.out.below hq4, HBL.out.trans (hq4.mono hsz)⟩
            have hsame := why_same HT1.out.1 HT1.out.2 ht2 (fun c d h1 h2 h3 => (hr2 c d h1 h2 h3).1)
            obtain ⟨eb, heb⟩ : ∃ q, t2.isEmpty = q := ⟨_, rfl⟩
            rw [heb] at hsame
            generalize whyE A Sk.data.toList Tk.data.toList = E at *
            clear hb4 hq4 y2 y3 ht2 hr2
            rcases eb with _ | _
            all_goals
              go_wp2_with (go_at_call 34; refine (HNU.out _ _).mono ?_; rintro e w' ⟨rfl, rfl⟩)
              go_roundw
              case rel => exact ⟨k + 1, by omega, by go_num, hI.1, hI.2.1, hI.2.2⟩
              case measure => simp [intOf]; omega
          · have b5 : (kd == 5) = false := beq_eq_false_iff_ne.2 k5
            have b9 : (kd == 9) = false := beq_eq_false_iff_ne.2 k9
            clear k5 k9 htl
            go_wp2_with fail
            go_roundw
            case rel => exact ⟨k + 1, by omega, by go_num, HAX.out.below ((Below.refl _ wr).alloc (Nat.le_refl _) _), HAY.out.below ((Below.refl _ wr).alloc (Nat.le_refl _) _), HBL.out.alloc hsz _⟩
            case measure => simp [intOf]; omega
        · have hd2 : decide ((k : Int) < 1152921504606846976) = false := by simpa using hmax
          clear hmax
          go_wp2_with fail
          go_ret
          exact ⟨rfl, hbel⟩
      · have hd : decide ((k : Int) < (len : Int)) = false := by simp; omega
        go_wp2_with fail
        go_ret
        exact ⟨rfl, hbel⟩
  | true =>
    have he2 : (batchP A).isEmpty = false := by
      rw [hnb] at hbe
      simpa using hbe
    clear hbe
    go_wp2_with (go_at_call 34; refine (HNU.out _ _).mono ?_; rintro e w' ⟨rfl, rfl⟩)
    go_loopw [14] (fun i wr => ∃ k : Nat, k ≤ len ∧ i = .int .i64 k ∧ ASess wr x A ∧ ASess wr y A ∧ Below w.heap.size w wr) (fun i _ => len - (intOf i).toNat)
    case atStart => exact ⟨0, Nat.zero_le _, rfl, HX8.out, HY8.out, HB8.out⟩
    case round =>
      obtain ⟨k, hk, rfl, hax, hay, hbel⟩ := hrel
      have hsz := hbel.size
      by_cases hlt : k < len
      · by_cases hmax : (k : Int) < 1152921504606846976
        · obtain ⟨c0, c1, c2, c3, c4, hs, hts, hus⟩ := HC.out k hlt
          have d0 := cell_below hbel c0 hg
          have d1 := cell_below hbel c1 hg
          have d2 := cell_below hbel c2 hg
          have d3 := cell_below hbel c3 hg
          have d4 := cell_below hbel c4 hg
          obtain ⟨Sk, hSk⟩ : ∃ q, S k = q := ⟨_, rfl⟩
          obtain ⟨Tk, hTk⟩ : ∃ q, T k = q := ⟨_, rfl⟩
          obtain ⟨Uk, hUk⟩ : ∃ q, U k = q := ⟨_, rfl⟩
          obtain ⟨Wk, hWk⟩ : ∃ q, W k = q := ⟨_, rfl⟩
          obtain ⟨kd, hkd⟩ : ∃ q, KD k = q := ⟨_, rfl⟩
          rw [hkd] at d0
          rw [hWk] at d1
          rw [hSk] at d2
          rw [hTk] at d3 hts
          rw [hUk] at d4
          have htl : Tk.data.toList.length ≤ 9223372036854775807 := hts
          have HS := hid (And.intro hs (And.intro hts hus))
          have HAX := hid hax
          have HAY := hid hay
          have HBL := hid hbel
          clear c0 c1 c2 c3 c4 hSk hTk hUk hWk hkd hbel hax hay hs hts hus
          by_cases k5 : kd = 5
          · subst k5
            have hpx := fun wx (h : ASess wx x A) => aPoints_any x A Sk.data.toList Tk.data.toList wx h HGO.out hsm htl
            have hpy := fun wx (h : ASess wx y A) => aPoints_any y A Sk.data.toList Tk.data.toList wx h HGO.out hsm htl
            simp only [bs_back] at hpx hpy
            generalize pointsP A Sk.data.toList Tk.data.toList = R at *
            obtain ⟨R1, R2, R3⟩ := R
            simp only at hpx hpy
            have HPX := hid hpx
            have HPY := hid hpy
            clear hpx hpy htl
            go_wp2_with fail
            have hO := heap_alloc_new wr (.cells #[.int .i64 5, .int .i64 Wk, .string Sk, .string Tk, .string Uk] 33)
            have hbO := (Below.refl wr.heap.size wr).alloc (Nat.le_refl _) (.cells #[.int .i64 5, .int .i64 Wk, .string Sk, .string Tk, .string Uk] 33)
            generalize wr.alloc (.cells #[.int .i64 5, .int .i64 Wk, .string Sk, .string Tk, .string Uk] 33) = W0 at *
            refine (HPX.out _ (HAX.out.below hbO)).mono ?_
            rintro e v3 ⟨rfl, hb3⟩
            have hlO := lt_of_block hO
            have y2 := cell_below hb3 (block_cell (j := 2) hO) hlO
            have y3 := cell_below hb3 (block_cell (j := 3) hO) hlO
            have hbO3 := hbO.trans (hb3.mono hbO.size)
            have hlO3 : wr.heap.size < v3.heap.size := Nat.lt_of_lt_of_le hlO hb3.size
            have HQ3 := hid hbO3
            clear hO hbO hb3 hlO hbO3 d0 d1 d2 d3 d4
            go_wp2_with fail
            refine (HPY.out _ (HAY.out.below HQ3.out)).mono ?_
            rintro e v4 ⟨rfl, hb4⟩
            have hq4 := HQ3.out.trans (hb4.mono HQ3.out.size)
            have hI : ASess v4 x A ∧ ASess v4 y A ∧ Below w.heap.size w v4 := ⟨HAX.out.below hq4, HAY.out.below hq4, HBL.out.trans (hq4.mono hsz)⟩
            clear hb4 hq4 y2 y3
            go_wp2_with fail
            go_roundw
            case rel => exact ⟨k + 1, by omega, by go_num, hI.1, hI.2.1, hI.2.2⟩
            case measure => simp [intOf]; omega
          by_cases k9 : kd = 9
          · subst k9
            have hpx := fun wx (h : ASess wx x A) => HWO.out x A Sk.data.toList Tk.data.toList wx h HGO.out hsm
            have hpy := fun wx (h : ASess wx y A) => HWO.out y A Sk.data.toList Tk.data.toList wx h HGO.out hsm
            simp only [bs_back] at hpx hpy
            have HPX := hid hpx
            have HPY := hid hpy
            clear k5 htl hpx hpy
            go_wp2_with fail
            have hO := heap_alloc_new wr (.cells #[.int .i64 9, .int .i64 Wk, .string Sk, .string Tk, .string Uk] 33)
            have hbO := (Below.refl wr.heap.size wr).alloc (Nat.le_refl _) (.cells #[.int .i64 9, .int .i64 Wk, .string Sk, .string Tk, .string Uk] 33)
            generalize wr.alloc (.cells #[.int .i64 9, .int .i64 Wk, .string Sk, .string Tk, .string Uk] 33) = W0 at *
            refine (HPX.out _ (HAX.out.below hbO)).mono ?_
            rintro e v3 ⟨t1, rfl, ht1, hr1, hb3⟩
            have hlO := lt_of_block hO
            have y2 := cell_below hb3 (block_cell (j := 2) hO) hlO
            have y3 := cell_below hb3 (block_cell (j := 3) hO) hlO
            have hbO3 := hbO.trans (hb3.mono hbO.size)
            have hlO3 : wr.heap.size < v3.heap.size := Nat.lt_of_lt_of_le hlO hb3.size
            have HQ3 := hid hbO3
            have HT1 := hid (And.intro ht1 (fun c d h1 h2 h3 => (hr1 c d h1 h2 h3).1))
            clear hO hbO hb3 hlO hbO3 d0 d1 d2 d3 d4 ht1 hr1
            go_wp2_with fail
            refine (HPY.out _ (HAY.out.below HQ3.out)).mono ?_
            rintro e v4 ⟨t2, rfl, ht2, hr2, hb4⟩
            have hq4 := HQ3.out.trans (hb4.mono HQ3.out.size)
            have hI : ASess v4 x A ∧ ASess v4 y A ∧ Below w.heap.size w v4 := ⟨HAX.out.below hq4, HAY.out.below hq4, HBL.out.trans (hq4.mono hsz)⟩
            have hsame := why_same HT1.out.1 HT1.out.2 ht2 (fun c d h1 h2 h3 => (hr2 c d h1 h2 h3).1)
            obtain ⟨eb, heb⟩ : ∃ q, t2.isEmpty = q := ⟨_, rfl⟩
            rw [heb] at hsame
            generalize whyE A Sk.data.toList Tk.data.toList = E at *
            clear hb4 hq4 y2 y3 ht2 hr2
            rcases eb with _ | _
            all_goals
              go_wp2_with (go_at_call 34; refine (HNU.out _ _).mono ?_; rintro e w' ⟨rfl, rfl⟩)
              go_roundw
              case rel => exact ⟨k + 1, by omega, by go_num, hI.1, hI.2.1, hI.2.2⟩
              case measure => simp [intOf]; omega
          · have b5 : (kd == 5) = false := beq_eq_false_iff_ne.2 k5
            have b9 : (kd == 9) = false := beq_eq_false_iff_ne.2 k9
            clear k5 k9 htl
            go_wp2_with fail
            go_roundw
            case rel => exact ⟨k + 1, by omega, by go_num, HAX.out.below ((Below.refl _ wr).alloc (Nat.le_refl _) _), HAY.out.below ((Below.refl _ wr).alloc (Nat.le_refl _) _), HBL.out.alloc hsz _⟩
            case measure => simp [intOf]; omega
        · have hd2 : decide ((k : Int) < 1152921504606846976) = false := by simpa using hmax
          clear hmax
          go_wp2_with fail
          go_ret
          exact ⟨rfl, hbel⟩
      · have hd : decide ((k : Int) < (len : Int)) = false := by simp; omega
        go_wp2_with fail
        go_ret
        exact ⟨rfl, hbel⟩
end Go.Proofs.Ytmjlcajcobbcgaa

namespace Go.Proofs.Ytmjlcajcobbcgaa
open Go.RowKit

set_option maxRecDepth 100000 in
set_option maxHeartbeats 4000000 in
theorem Anew_zero (_hWy : WhyOk) (ap : Option Addr) (cap : Nat) (w : World) :
    Calls Try.prog 13 #[.slice ap 0 cap] w fun e w' => e = .returned (.bool true) ∧ Below w.heap.size w w' := by
  have HM := hid (made_zero ap cap w)
  have HL := hid (fun x wx (hx : ASess wx x []) => list_zero x ap cap wx hx)
  have hgo := Al.good_nil
  obtain ⟨A, hAe⟩ : ∃ A : List Al.St, [] = A := ⟨_, rfl⟩
  have hsm : A.length ≤ 24 := by rw [← hAe]; simp
  have hbz : batchP A = [] := by rw [← hAe]; decide
  have hal : A.length = 0 := by rw [← hAe]; rfl
  rw [hAe] at HM HL hgo
  have HGO := hid hgo
  have HN := hid New_any
  have HNU := hid num_any
  have hbt := bs_toList
  have HLO := hid (load_own hgo hsm)
  clear hgo
  go_enter Try.func13, Try.ntmps13
  go_wp2_with fail
  refine HM.out.mono ?_
  rintro e w1 ⟨x, rfl, hx1, hxs, hb1⟩
  obtain ⟨vx, hvx⟩ := hx1.hd
  have hxl := lt_of_block hvx
  have HX1 := hid hx1
  have HB1 := hid hb1
  clear hx1 hb1 hvx
  go_wp2_with fail
  refine (HN.out _).mono ?_
  rintro e w2 ⟨rfl, hw2⟩
  have hb2 : Below w1.heap.size w1 w2 := by rw [hw2]; exact (Below.refl _ _).alloc (Nat.le_refl _) _
  have hy2 : ASess w2 w1.heap.size [] := by rw [hw2]; exact ⟨.slice none 0 0, heap_alloc_new w1 _, nil_A _⟩
  have hB2 := HB1.out.trans (hb2.mono HB1.out.size)
  have HX2 := hid (HX1.out.below hb2)
  have HY2 := hid hy2
  have HB2 := hid hB2
  have hys : w.heap.size ≤ w1.heap.size := HB1.out.size
  clear hw2 hb2 hy2 hB2
  generalize w1.heap.size = y at *
  have hxy : x ≠ y := by omega
  have HL2 := hid (HL.out x w2 HX2.out)
  go_wp2_with fail
  refine HL2.out.mono ?_
  rintro e w3 ⟨v, rfl, hr3, hb3⟩
  obtain ⟨ao, c, hve⟩ := rdS_len hr3
  simp only [List.length_nil] at hve
  subst hve
  have HX3 := hid (HX2.out.below hb3)
  have HY3 := hid (HY2.out.below hb3)
  have HB3 := hid (HB2.out.trans (hb3.mono HB2.out.size))
  clear hr3 hb3
  go_wp2_with fail
  refine (aPrint_any x A _ HX3.out hsm).mono ?_
  rintro e w4 ⟨rfl, hb4⟩
  have HX4 := hid (HX3.out.below hb4)
  have HY4 := hid (HY3.out.below hb4)
  have HB4 := hid (HB3.out.trans (hb4.mono HB3.out.size))
  clear hb4
  go_wp2_with fail
  refine (aLoad_any y [] (bs (cat A)) _ (by have := cat_le A; show (cat A).length ≤ maxLen; unfold maxLen; omega) HY4.out).mono ?_
  rintro e w5 ⟨rfl, hy5, hg5⟩
  rw [HLO.out]
  have hch : chLoad (bs (cat A)).data.toList [] = A := by unfold chLoad; rw [HLO.out]; rfl
  rw [hch] at hy5
  obtain ⟨vy, hvy⟩ := HY4.out.hd
  have HX5 := hid (HX4.out.other hg5 hxy hvy)
  have HY5 := hid hy5
  have HB5 := hid (below_of_grown HB4.out hg5 HB4.out.size hys)
  clear hy5 hg5 hch hvy
  go_wp2_with fail
  refine (aPrint_any y A _ HY5.out hsm).mono ?_
  rintro e w6 ⟨rfl, hb6⟩
  have HX6 := hid (HX5.out.below hb6)
  have HY6 := hid (HY5.out.below hb6)
  have HB6 := hid (HB5.out.trans (hb6.mono HB5.out.size))
  clear hb6
  go_wp2_with fail
  refine (aBatch_any x A _ HX6.out HGO.out hsm).mono ?_
  rintro e w7 ⟨rfl, hb7⟩
  have HX7 := hid (HX6.out.below hb7)
  have HY7 := hid (HY6.out.below hb7)
  have HB7 := hid (HB6.out.trans (hb7.mono HB6.out.size))
  clear hb7
  go_wp2_with fail
  refine (aBatch_any y A _ HY7.out HGO.out hsm).mono ?_
  rintro e w8 ⟨rfl, hb8⟩
  have HX8 := hid (HX7.out.below hb8)
  have HY8 := hid (HY7.out.below hb8)
  have HB8 := hid (HB7.out.trans (hb8.mono HB7.out.size))
  clear hb8
  have he2 : (batchP A).isEmpty = true := by rw [hbz]; rfl
  have hd0 : decide (0 < A.length) = false := by rw [hal]; rfl
  clear hAe
  go_wp2_with (go_at_call 34; refine (HNU.out _ _).mono ?_; rintro e w' ⟨rfl, rfl⟩)
  refine wp_loop_rounds 1 ?_
  rw [rounds_succ]
  go_wp2_with fail
  go_ret
  exact ⟨rfl, HB8.out⟩
theorem Anew_some (hWy : WhyOk) (g off len cap : Nat) (w : World) (hg : g < w.heap.size) (hlc : len ≤ cap) (hcm : cap ≤ 9223372036854775807)
    (hc : ∀ k, k < len → ∃ (kd W : Int) (s t u : ByteArray), w.cell? ⟨g, off + k * 5, none⟩ = some (.int .i64 kd) ∧ w.cell? ⟨g, off + k * 5 + 1, none⟩ = some (.int .i64 W) ∧ w.cell? ⟨g, off + k * 5 + 2, none⟩ = some (.string s) ∧ w.cell? ⟨g, off + k * 5 + 3, none⟩ = some (.string t) ∧ w.cell? ⟨g, off + k * 5 + 4, none⟩ = some (.string u) ∧ s.size ≤ maxLen ∧ t.size ≤ maxLen ∧ u.size ≤ maxLen) :
    Calls Try.prog 13 #[.slice (some ⟨g, off, none⟩) len cap] w fun e w' => e = .returned (.bool true) ∧ Below w.heap.size w w' := by
  obtain ⟨KD, W, S, T, U, h⟩ := scr_of hc
  exact Anew_scr hWy g off len cap KD W S T U w hg hlc hcm h
end Go.Proofs.Ytmjlcajcobbcgaa
