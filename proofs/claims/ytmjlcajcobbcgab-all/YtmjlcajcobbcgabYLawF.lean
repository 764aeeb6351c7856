import Derived.Test.YtmjlcajcobbcgabXk
namespace Go.Proofs.Ytmjlcajcobbcgab
open Go.RowKit

/-- Every step of a kind from lo to hi is as the document says. -/
def StepOk (lo hi : Int) : Prop := ∀ (kd : Int), lo ≤ kd → kd ≤ hi → ∀ (x m : Nat) (A : List Al.St) (W : Int) (s t u : ByteArray) (w : World), (s.size ≤ maxLen ∧ t.size ≤ maxLen ∧ u.size ≤ maxLen) → Pr w x m A →
    Calls Try.prog 23 #[.agg #[.pointer (some ⟨x, 0, none⟩), .pointer (some ⟨m, 0, none⟩)], .agg #[.int .i64 kd, .int .i64 W, .string s, .string t, .string u]] w fun e w' => e = .returned (.bool true) ∧ (∃ A', Pr w' x m A') ∧ Fr x m w w'

set_option maxRecDepth 100000 in
set_option maxHeartbeats 4000000 in
theorem UpTo_gen (lo hi : Int) (hlo : 1 ≤ lo) (hhi : 3 ≤ hi) (hst : StepOk lo hi) (g off len cap : Nat) (w : World) (hg : g < w.heap.size) (_hlc : len ≤ cap) (_hcm : cap ≤ 9223372036854775807)
    (hc : ∀ k, k < len → ∃ (kd W : Int) (s t u : ByteArray), w.cell? ⟨g, off + k * 5, none⟩ = some (.int .i64 kd) ∧ w.cell? ⟨g, off + k * 5 + 1, none⟩ = some (.int .i64 W) ∧ w.cell? ⟨g, off + k * 5 + 2, none⟩ = some (.string s) ∧ w.cell? ⟨g, off + k * 5 + 3, none⟩ = some (.string t) ∧ w.cell? ⟨g, off + k * 5 + 4, none⟩ = some (.string u) ∧ s.size ≤ maxLen ∧ t.size ≤ maxLen ∧ u.size ≤ maxLen) :
    Calls Try.prog 17 #[.slice (some ⟨g, off, none⟩) len cap, .int .i64 lo, .int .i64 hi] w fun e w' => e = .returned (.int .i64 (-1)) ∧ Below w.heap.size w w' := by
  have hmk := make_worlds
  have HST := hid hst
  clear hst
  go_enter Try.func17, Try.ntmps17
  go_wp2_with fail
  go_loopw [8] (fun i wr => ∃ k : Nat, i = .int .i64 k ∧ Ini w wr k) (fun i _ => 2 - (intOf i).toNat)
  case atStart => exact ⟨0, rfl, (Below.refl _ _).alloc (Nat.le_refl _) _, .inl ⟨rfl, heap_alloc_new w _⟩⟩
  case round =>
    obtain ⟨k, rfl, hbel, hi⟩ := hrel
    have hsz := hbel.size
    rcases hi with ⟨rfl, hL⟩ | ⟨rfl, x, m, hx, hm, hL, hp⟩ | ⟨rfl, x, m, y, n, hx, hm, hy, hn, hxy, hmn, hL, hp, hq⟩
    · go_wp2_with fail
      refine (fresh_any _).mono ?_
      rintro e w1 ⟨x, m, rfl, hx, hm, hp, hbel1⟩
      have hL1 : w1.heap[w.heap.size]? = some (.cells #[.pointer none, .pointer none, .pointer none, .pointer none] 50 (0, 0)) := by rw [hbel1.block _ (lt_of_block hL)]; exact hL
      have c0 := block_cell (j := 0) hL1
      have c1 := block_cell (j := 1) hL1
      have f0 := block_free (j := 0) hL1
      have f1 := block_free (j := 1) hL1
      have hlt1 := lt_of_block hL1
      simp only [List.getElem?_toArray, List.getElem?_cons_zero, List.getElem?_cons_succ] at c0 c1
      have HI := hid (fun C => ini_one C hbel hL hx hm hp hbel1)
      clear hL1 hbel hbel1 hL hx hm hp hsz
      go_wp2_with fail
      exact ⟨⟨1, rfl, HI.out _⟩, by simp [intOf]⟩
    · go_wp2_with fail
      refine (fresh_any _).mono ?_
      rintro e w1 ⟨y, n, rfl, hy, hn, hq, hbel1⟩
      have hL1 : w1.heap[w.heap.size]? = some (.cells #[.pointer (some ⟨x, 0, none⟩), .pointer (some ⟨m, 0, none⟩), .pointer none, .pointer none] 50 (0, 0)) := by rw [hbel1.block _ (lt_of_block hL)]; exact hL
      have c0 := block_cell (j := 2) hL1
      have c1 := block_cell (j := 3) hL1
      have f0 := block_free (j := 2) hL1
      have f1 := block_free (j := 3) hL1
      have hlt1 := lt_of_block hL1
      simp only [List.getElem?_toArray, List.getElem?_cons_zero, List.getElem?_cons_succ] at c0 c1
      have HI := hid (fun C => ini_two C hbel hx hm hL hp hy hn hq hbel1)
      clear hL1 hbel hbel1 hL hx hm hp hsz hy hn hq
      go_wp2_with fail
      exact ⟨⟨2, rfl, HI.out _⟩, by simp [intOf]⟩
    · have hinv : Inv w wr := ⟨x, m, y, n, [], [], hx, hm, hy, hn, hxy, hmn, hL, hp, hq, hbel⟩
      clear hbel hsz hx hm hy hn hxy hmn hL hp hq hmk
      have HC := hid hc
      clear hc
      go_wp2_with fail
      go_loopw [11] (fun i wr => ∃ k : Nat, k ≤ len ∧ i = .int .i64 k ∧ Inv w wr) (fun i _ => len - (intOf i).toNat)
      case atStart => exact ⟨0, Nat.zero_le _, rfl, hinv⟩
      case round =>
        clear hinv
        obtain ⟨k, hk, rfl, hinv⟩ := hrel
        by_cases hlt : k < len
        · by_cases hmax : (k : Int) < 1152921504606846976
          · obtain ⟨kd, W, s, t, u, c0, c1, c2, c3, c4, hs⟩ := HC.out k hlt
            have HINV := hid hinv
            obtain ⟨x, m, y, n, A, A', hx, hm, hy, hn, hxy, hmn, hL, hp, hq, hbel⟩ := hinv
            have d0 := cell_below hbel c0 hg
            have d1 := cell_below hbel c1 hg
            have d2 := cell_below hbel c2 hg
            have d3 := cell_below hbel c3 hg
            have d4 := cell_below hbel c4 hg
            have HS := hid hs
            clear c0 c1 c2 c3 c4 hs
            have hlN := lt_of_block hL
            by_cases k10 : kd = 10
            · subst k10
              go_wp2_with fail
              have hO := heap_alloc_new wr (.cells #[.int .i64 10, .int .i64 W, .string s, .string t, .string u] 30)
              have hbO : Below wr.heap.size wr (wr.alloc (.cells #[.int .i64 10, .int .i64 W, .string s, .string t, .string u] 30)) := (Below.refl _ _).alloc (Nat.le_refl _) _
              generalize wr.alloc (.cells #[.int .i64 10, .int .i64 W, .string s, .string t, .string u] 30) = W0 at *
              have hL0 : Lay w W0 x m y n := by unfold Lay; rw [hbO.block _ hlN]; exact hL
              have hp0 := hp.below hbO
              have hq0 := hq.below hbO
              have hbel0 := hbel.trans (hbO.mono hbel.size)
              refine (fresh_any _).mono ?_
              rintro e w1 ⟨x', m', rfl, hx', hm', hp', hb1⟩
              have hN1 : w1.heap[wr.heap.size]? = some (.cells #[.int .i64 10, .int .i64 W, .string s, .string t, .string u] 30 (0, 0)) := by rw [hb1.block _ (lt_of_block hO)]; exact hO
              have e1 := block_cell (j := 1) hN1
              have hN1l := lt_of_block hN1
              have hL1 : Lay w w1 x m y n := by unfold Lay at *; rw [hb1.block _ (lt_of_block hL0)]; exact hL0
              have hLl := lt_of_block hL1
              have g0 := block_cell (j := 0) hL1
              have g1 := block_cell (j := 1) hL1
              have g2 := block_cell (j := 2) hL1
              have g3 := block_cell (j := 3) hL1
              have f0 := block_free (j := 0) hL1
              have f1 := block_free (j := 1) hL1
              have f2 := block_free (j := 2) hL1
              have f3 := block_free (j := 3) hL1
              simp only [List.getElem?_toArray, List.getElem?_cons_zero, List.getElem?_cons_succ] at e1 g0 g1 g2 g3
              have HI0 := hid (fun C => inv_new0 C hx hm hy hn hL0 hq0 hbel0 hx' hm' hp' hb1)
              have HI1 := hid (fun C => inv_new1 C hx hm hy hn hL0 hp0 hbel0 hx' hm' hp' hb1)
              clear hL1 hN1 hb1 hL0 hp0 hq0 hbel0 hO hbO hp' hx' hm' hp hq hL hbel d0 d1 d2 d3 d4
              rcases and_one_i64 W with hb | hb
              · go_wp2_with fail
                go_roundw
                case rel => (repeat apply Exists.intro); refine ⟨?_, rfl⟩; exact ⟨k + 1, by omega, by go_num, HI0.out _⟩
                case measure => simp [intOf]; omega
              · go_wp2_with fail
                go_roundw
                case rel => (repeat apply Exists.intro); refine ⟨?_, rfl⟩; exact ⟨k + 1, by omega, by go_num, HI1.out _⟩
                case measure => simp [intOf]; omega
            · have b10 : (kd == 10) = false := beq_eq_false_iff_ne.2 k10
              by_cases k4 : lo ≤ kd
              · by_cases k44 : kd ≤ hi
                · have HK : Hid (lo ≤ kd ∧ kd ≤ hi) := ⟨k4, k44⟩
                  have g0 := block_cell (j := 0) hL
                  have g1 := block_cell (j := 1) hL
                  have g2 := block_cell (j := 2) hL
                  have g3 := block_cell (j := 3) hL
                  simp only [List.getElem?_toArray, List.getElem?_cons_zero, List.getElem?_cons_succ] at g0 g1 g2 g3
                  have HT := hid (fun C D t' u' => (two_new wr C D t' u').2.2.1)
                  have HPQ := hid (And.intro hp (And.intro hq (And.intro hL hbel)))
                  clear hp hq hL hbel k10
                  rcases and_one_i64 W with hb | hb
                  · go_wp2_with fail
                    have hbW := HT.out #[.int .i64 kd, .int .i64 W, .string s, .string t, .string u] #[.pointer (some ⟨x, 0, none⟩), .pointer (some ⟨m, 0, none⟩)] 30 50
                    generalize (wr.alloc (.cells #[.int .i64 kd, .int .i64 W, .string s, .string t, .string u] 30)).alloc (.cells #[.pointer (some ⟨x, 0, none⟩), .pointer (some ⟨m, 0, none⟩)] 50) = W0 at *
                    refine (HST.out kd HK.out.1 HK.out.2 x m A W s t u _ HS.out (HPQ.out.1.below hbW)).mono ?_
                    rintro e w2 ⟨rfl, ⟨A2, hp2⟩, hf⟩
                    have hI := inv_left hx hm hy hn hxy hmn (by unfold Lay; rw [hbW.block _ hlN]; exact HPQ.out.2.2.1) (HPQ.out.1.below hbW) (HPQ.out.2.1.below hbW) (HPQ.out.2.2.2.trans (hbW.mono HPQ.out.2.2.2.size)) hp2 hf
                    clear hp2 hf hbW
                    go_wp2_with fail
                    go_roundw
                    case rel => (repeat apply Exists.intro); refine ⟨?_, rfl⟩; exact ⟨k + 1, by omega, by go_num, hI⟩
                    case measure => simp [intOf]; omega
                  · go_wp2_with fail
                    have hbW := HT.out #[.int .i64 kd, .int .i64 W, .string s, .string t, .string u] #[.pointer (some ⟨y, 0, none⟩), .pointer (some ⟨n, 0, none⟩)] 30 50
                    generalize (wr.alloc (.cells #[.int .i64 kd, .int .i64 W, .string s, .string t, .string u] 30)).alloc (.cells #[.pointer (some ⟨y, 0, none⟩), .pointer (some ⟨n, 0, none⟩)] 50) = W0 at *
                    refine (HST.out kd HK.out.1 HK.out.2 y n A' W s t u _ HS.out (HPQ.out.2.1.below hbW)).mono ?_
                    rintro e w2 ⟨rfl, ⟨A2, hp2⟩, hf⟩
                    have hI := inv_right hx hm hy hn hxy hmn (by unfold Lay; rw [hbW.block _ hlN]; exact HPQ.out.2.2.1) (HPQ.out.1.below hbW) (HPQ.out.2.1.below hbW) (HPQ.out.2.2.2.trans (hbW.mono HPQ.out.2.2.2.size)) hp2 hf
                    clear hp2 hf hbW
                    go_wp2_with fail
                    go_roundw
                    case rel => (repeat apply Exists.intro); refine ⟨?_, rfl⟩; exact ⟨k + 1, by omega, by go_num, hI⟩
                    case measure => simp [intOf]; omega
                · have q0 : decide (kd ≤ hi) = false := by simpa using k44
                  have q1 : decide (kd ≤ 3) = false := by simp; omega
                  have k1 : 1 ≤ kd := by omega
                  have HB := hid (fun O => (Below.refl _ wr).alloc (Nat.le_refl _) O)
                  clear hp hq hL hbel
                  go_wp2_with fail
                  go_roundw
                  case rel => exact ⟨k + 1, by omega, by go_num, HINV.out.below (HB.out _)⟩
                  case measure => simp [intOf]; omega
              · have q4 : decide (lo ≤ kd) = false := by simpa using k4
                rcases (show (1 ≤ kd ∧ kd ≤ 3) ∨ (1 ≤ kd ∧ ¬ kd ≤ 3) ∨ ¬ 1 ≤ kd by omega) with ⟨k1, k3⟩ | ⟨k1, k3⟩ | k1
                · have HK : Hid (kd = 1 ∨ kd = 2 ∨ kd = 3) := by unfold Hid; omega
                  have g0 := block_cell (j := 0) hL
                  have g1 := block_cell (j := 1) hL
                  have g2 := block_cell (j := 2) hL
                  have g3 := block_cell (j := 3) hL
                  simp only [List.getElem?_toArray, List.getElem?_cons_zero, List.getElem?_cons_succ] at g0 g1 g2 g3
                  have HT := hid (fun C D t' u' => (two_new wr C D t' u').2.2.1)
                  have HPQ := hid (And.intro hp (And.intro hq (And.intro hL hbel)))
                  clear hp hq hL hbel k10
                  rcases and_one_i64 W with hb | hb
                  · go_wp2_with fail
                    have hbW := HT.out #[.int .i64 kd, .int .i64 W, .string s, .string t, .string u] #[.pointer (some ⟨x, 0, none⟩), .pointer (some ⟨m, 0, none⟩)] 30 50
                    generalize (wr.alloc (.cells #[.int .i64 kd, .int .i64 W, .string s, .string t, .string u] 30)).alloc (.cells #[.pointer (some ⟨x, 0, none⟩), .pointer (some ⟨m, 0, none⟩)] 50) = W0 at *
                    refine (step_ch x m A kd W s t u _ HS.out.1 (HPQ.out.1.below hbW) HK.out).mono ?_
                    rintro e w2 ⟨rfl, ⟨A2, hp2⟩, hf⟩
                    have hI := inv_left hx hm hy hn hxy hmn (by unfold Lay; rw [hbW.block _ hlN]; exact HPQ.out.2.2.1) (HPQ.out.1.below hbW) (HPQ.out.2.1.below hbW) (HPQ.out.2.2.2.trans (hbW.mono HPQ.out.2.2.2.size)) hp2 hf
                    clear hp2 hf hbW
                    go_wp2_with fail
                    go_roundw
                    case rel => (repeat apply Exists.intro); refine ⟨?_, rfl⟩; exact ⟨k + 1, by omega, by go_num, hI⟩
                    case measure => simp [intOf]; omega
                  · go_wp2_with fail
                    have hbW := HT.out #[.int .i64 kd, .int .i64 W, .string s, .string t, .string u] #[.pointer (some ⟨y, 0, none⟩), .pointer (some ⟨n, 0, none⟩)] 30 50
                    generalize (wr.alloc (.cells #[.int .i64 kd, .int .i64 W, .string s, .string t, .string u] 30)).alloc (.cells #[.pointer (some ⟨y, 0, none⟩), .pointer (some ⟨n, 0, none⟩)] 50) = W0 at *
                    refine (step_ch y n A' kd W s t u _ HS.out.1 (HPQ.out.2.1.below hbW) HK.out).mono ?_
                    rintro e w2 ⟨rfl, ⟨A2, hp2⟩, hf⟩
                    have hI := inv_right hx hm hy hn hxy hmn (by unfold Lay; rw [hbW.block _ hlN]; exact HPQ.out.2.2.1) (HPQ.out.1.below hbW) (HPQ.out.2.1.below hbW) (HPQ.out.2.2.2.trans (hbW.mono HPQ.out.2.2.2.size)) hp2 hf
                    clear hp2 hf hbW
                    go_wp2_with fail
                    go_roundw
                    case rel => (repeat apply Exists.intro); refine ⟨?_, rfl⟩; exact ⟨k + 1, by omega, by go_num, hI⟩
                    case measure => simp [intOf]; omega
                · have q1 : decide (kd ≤ 3) = false := by simpa using k3
                  have HB := hid (fun O => (Below.refl _ wr).alloc (Nat.le_refl _) O)
                  clear hp hq hL hbel
                  go_wp2_with fail
                  go_roundw
                  case rel => exact ⟨k + 1, by omega, by go_num, HINV.out.below (HB.out _)⟩
                  case measure => simp [intOf]; omega
                · have q1 : decide (1 ≤ kd) = false := by simpa using k1
                  have HB := hid (fun O => (Below.refl _ wr).alloc (Nat.le_refl _) O)
                  clear hp hq hL hbel
                  go_wp2_with fail
                  go_roundw
                  case rel => exact ⟨k + 1, by omega, by go_num, HINV.out.below (HB.out _)⟩
                  case measure => simp [intOf]; omega
          · have hd2 : decide ((k : Int) < 1152921504606846976) = false := by simpa using hmax
            go_wp2_with fail
            go_ret
            obtain ⟨_, _, _, _, _, _, _, _, _, _, _, _, _, _, _, hbel⟩ := hinv
            exact ⟨rfl, hbel⟩
        · have hd : decide ((k : Int) < (len : Int)) = false := by simp; omega
          go_wp2_with fail
          go_ret
          obtain ⟨_, _, _, _, _, _, _, _, _, _, _, _, _, _, _, hbel⟩ := hinv
          exact ⟨rfl, hbel⟩
end Go.Proofs.Ytmjlcajcobbcgab
