import Derived.Test.YtmjlcajcobbcgaaXj
import Derived.Lib.AppendStr
namespace Go.Proofs.Ytmjlcajcobbcgaa
open Go.RowKit

theorem make_worlds (w : World) : (Instr.makeSlice 63 (.int .i64 2) (.int .i64 2)).run Try.prog w = .ok (.slice (some ⟨w.heap.size, 0, none⟩) 2 2) (w.alloc (.cells #[.pointer none, .pointer none, .pointer none, .pointer none] 36)) := by kernel_rfl

set_option maxRecDepth 100000 in
set_option maxHeartbeats 4000000 in
theorem UpTo_13 (g off len cap : Nat) (w : World) (hg : g < w.heap.size) (_hlc : len ≤ cap) (_hcm : cap ≤ 9223372036854775807)
    (hc : ∀ k, k < len → ∃ (kd W : Int) (s t u : ByteArray), w.cell? ⟨g, off + k * 5, none⟩ = some (.int .i64 kd) ∧ w.cell? ⟨g, off + k * 5 + 1, none⟩ = some (.int .i64 W) ∧ w.cell? ⟨g, off + k * 5 + 2, none⟩ = some (.string s) ∧ w.cell? ⟨g, off + k * 5 + 3, none⟩ = some (.string t) ∧ w.cell? ⟨g, off + k * 5 + 4, none⟩ = some (.string u) ∧ s.size ≤ maxLen) :
    Calls Try.prog 15 #[.slice (some ⟨g, off, none⟩) len cap, .int .i64 1, .int .i64 3] w fun e w' => e = .returned (.int .i64 (-1)) ∧ Below w.heap.size w w' := by
  have hmk := make_worlds
  go_enter Try.func15, Try.ntmps15
  go_wp2_with fail
  go_loopw [8] (fun i wr => ∃ k : Nat, i = .int .i64 k ∧ Ini w wr k) (fun i _ => 2 - (intOf i).toNat)
  case atStart => exact ⟨0, rfl, (Below.refl _ _).alloc (Nat.le_refl _) _, .inl ⟨rfl, heap_alloc_new w _⟩⟩
  case round =>
    obtain ⟨k, rfl, hbel, hi⟩ := hrel
    have hsz := hbel.size
    rcases hi with ⟨rfl, hL⟩ | ⟨rfl, x, m, hx, hm, hL, hp⟩ | ⟨rfl, x, m, y, n, hx, hm, hy, hn, hxy, hmn, hL, hp, hq⟩
    · go_wp2_with fail
      refine (fresh_any _).mono ?_
      rintro e w1 ⟨x, m, rfl, hx, hm, hp, hbel1⟩
      have hL1 : w1.heap[w.heap.size]? = some (.cells #[.pointer none, .pointer none, .pointer none, .pointer none] 36 (0, 0)) := by rw [hbel1.block _ (lt_of_block hL)]; exact hL
      have c0 := block_cell (j := 0) hL1
      have c1 := block_cell (j := 1) hL1
      have f0 := block_free (j := 0) hL1
      have f1 := block_free (j := 1) hL1
      have hlt1 := lt_of_block hL1
      simp only [List.getElem?_toArray, List.getElem?_cons_zero, List.getElem?_cons_succ] at c0 c1
      have HI := hid (fun C => ini_one C hbel hL hx hm hp hbel1)
      clear hL1 hbel hbel1 hL hx hm hp hsz
      go_wp2_with fail
      exact ⟨⟨1, rfl, HI.out _⟩, by simp [intOf]⟩
    · go_wp2_with fail
      refine (fresh_any _).mono ?_
      rintro e w1 ⟨y, n, rfl, hy, hn, hq, hbel1⟩
      have hL1 : w1.heap[w.heap.size]? = some (.cells #[.pointer (some ⟨x, 0, none⟩), .pointer (some ⟨m, 0, none⟩), .pointer none, .pointer none] 36 (0, 0)) := by rw [hbel1.block _ (lt_of_block hL)]; exact hL
      have c0 := block_cell (j := 2) hL1
      have c1 := block_cell (j := 3) hL1
      have f0 := block_free (j := 2) hL1
      have f1 := block_free (j := 3) hL1
      have hlt1 := lt_of_block hL1
      simp only [List.getElem?_toArray, List.getElem?_cons_zero, List.getElem?_cons_succ] at c0 c1
      have HI := hid (fun C => ini_two C hbel hx hm hL hp hy hn hq hbel1)
      clear hL1 hbel hbel1 hL hx hm hp hsz hy hn hq
      go_wp2_with fail
      exact ⟨⟨2, rfl, HI.out _⟩, by simp [intOf]⟩
    · have hinv : Inv w wr := ⟨x, m, y, n, [], [], hx, hm, hy, hn, hxy, hmn, hL, hp, hq, hbel⟩
      clear hbel hsz hx hm hy hn hxy hmn hL hp hq hmk
      have HC := hid hc
      clear hc
      go_wp2_with fail
      go_loopw [11] (fun i wr => ∃ k : Nat, k ≤ len ∧ i = .int .i64 k ∧ Inv w wr) (fun i _ => len - (intOf i).toNat)
      case atStart => exact ⟨0, Nat.zero_le _, rfl, hinv⟩
      case round =>
        clear hinv
        obtain ⟨k, hk, rfl, hinv⟩ := hrel
        by_cases hlt : k < len
        · by_cases hmax : (k : Int) < 1152921504606846976
          · obtain ⟨kd, W, s, t, u, c0, c1, c2, c3, c4, hs⟩ := HC.out k hlt
            have HINV := hid hinv
            obtain ⟨x, m, y, n, A, A', hx, hm, hy, hn, hxy, hmn, hL, hp, hq, hbel⟩ := hinv
            have d0 := cell_below hbel c0 hg
            have d1 := cell_below hbel c1 hg
            have d2 := cell_below hbel c2 hg
            have d3 := cell_below hbel c3 hg
            have d4 := cell_below hbel c4 hg
            have HS := hid hs
            clear c0 c1 c2 c3 c4 hs
            have hlN := lt_of_block hL
            by_cases k10 : kd = 10
            · subst k10
              go_wp2_with fail
              have hO := heap_alloc_new wr (.cells #[.int .i64 10, .int .i64 W, .string s, .string t, .string u] 33)
              have hbO : Below wr.heap.size wr (wr.alloc (.cells #[.int .i64 10, .int .i64 W, .string s, .string t, .string u] 33)) := (Below.refl _ _).alloc (Nat.le_refl _) _
              generalize wr.alloc (.cells #[.int .i64 10, .int .i64 W, .string s, .string t, .string u] 33) = W0 at *
              have hL0 : Lay w W0 x m y n := by unfold Lay; rw [hbO.block _ hlN]; exact hL
              have hp0 := hp.below hbO
              have hq0 := hq.below hbO
              have hbel0 := hbel.trans (hbO.mono hbel.size)
              refine (fresh_any _).mono ?_
              rintro e w1 ⟨x', m', rfl, hx', hm', hp', hb1⟩
              have hN1 : w1.heap[wr.heap.size]? = some (.cells #[.int .i64 10, .int .i64 W, .string s, .string t, .string u] 33 (0, 0)) := by rw [hb1.block _ (lt_of_block hO)]; exact hO
              have e1 := block_cell (j := 1) hN1
              have hN1l := lt_of_block hN1
              have hL1 : Lay w w1 x m y n := by unfold Lay at *; rw [hb1.block _ (lt_of_block hL0)]; exact hL0
              have hLl := lt_of_block hL1
              have g0 := block_cell (j := 0) hL1
              have g1 := block_cell (j := 1) hL1
              have g2 := block_cell (j := 2) hL1
              have g3 := block_cell (j := 3) hL1
              have f0 := block_free (j := 0) hL1
              have f1 := block_free (j := 1) hL1
              have f2 := block_free (j := 2) hL1
              have f3 := block_free (j := 3) hL1
              simp only [List.getElem?_toArray, List.getElem?_cons_zero, List.getElem?_cons_succ] at e1 g0 g1 g2 g3
              have HI0 := hid (fun C => inv_new0 C hx hm hy hn hL0 hq0 hbel0 hx' hm' hp' hb1)
              have HI1 := hid (fun C => inv_new1 C hx hm hy hn hL0 hp0 hbel0 hx' hm' hp' hb1)
              clear hL1 hN1 hb1 hL0 hp0 hq0 hbel0 hO hbO hp' hx' hm' hp hq hL hbel d0 d1 d2 d3 d4
              rcases and_one_i64 W with hb | hb
              · go_wp2_with fail
                go_roundw
                case rel => (repeat apply Exists.intro); refine ⟨?_, rfl⟩; exact ⟨k + 1, by omega, by go_num, HI0.out _⟩
                case measure => simp [intOf]; omega
              · go_wp2_with fail
                go_roundw
                case rel => (repeat apply Exists.intro); refine ⟨?_, rfl⟩; exact ⟨k + 1, by omega, by go_num, HI1.out _⟩
                case measure => simp [intOf]; omega
            · have b10 : (kd == 10) = false := beq_eq_false_iff_ne.2 k10
              by_cases k1 : 1 ≤ kd
              · by_cases k3 : kd ≤ 3
                · have HK : Hid (kd = 1 ∨ kd = 2 ∨ kd = 3) := by unfold Hid; omega
                  have g0 := block_cell (j := 0) hL
                  have g1 := block_cell (j := 1) hL
                  have g2 := block_cell (j := 2) hL
                  have g3 := block_cell (j := 3) hL
                  simp only [List.getElem?_toArray, List.getElem?_cons_zero, List.getElem?_cons_succ] at g0 g1 g2 g3
                  have HT := hid (fun C D t' u' => (two_new wr C D t' u').2.2.1)
                  have HPQ := hid (And.intro hp (And.intro hq (And.intro hL hbel)))
                  clear hp hq hL hbel k10
                  rcases and_one_i64 W with hb | hb
                  · go_wp2_with fail
                    have hbW := HT.out #[.int .i64 kd, .int .i64 W, .string s, .string t, .string u] #[.pointer (some ⟨x, 0, none⟩), .pointer (some ⟨m, 0, none⟩)] 33 36
                    generalize (wr.alloc (.cells #[.int .i64 kd, .int .i64 W, .string s, .string t, .string u] 33)).alloc (.cells #[.pointer (some ⟨x, 0, none⟩), .pointer (some ⟨m, 0, none⟩)] 36) = W0 at *
                    refine (step_ch x m A kd W s t u _ HS.out (HPQ.out.1.below hbW) HK.out).mono ?_
                    rintro e w2 ⟨rfl, ⟨A2, hp2⟩, hf⟩
                    have hI := inv_left hx hm hy hn hxy hmn (by unfold Lay; rw [hbW.block _ hlN]; exact HPQ.out.2.2.1) (HPQ.out.1.below hbW) (HPQ.out.2.1.below hbW) (HPQ.out.2.2.2.trans (hbW.mono HPQ.out.2.2.2.size)) hp2 hf
                    clear hp2 hf hbW
                    go_wp2_with fail
                    go_roundw
                    case rel => (repeat apply Exists.intro); refine ⟨?_, rfl⟩; exact ⟨k + 1, by omega, by go_num, hI⟩
                    case measure => simp [intOf]; omega
                  · go_wp2_with fail
                    have hbW := HT.out #[.int .i64 kd, .int .i64 W, .string s, .string t, .string u] #[.pointer (some ⟨y, 0, none⟩), .pointer (some ⟨n, 0, none⟩)] 33 36
                    generalize (wr.alloc (.cells #[.int .i64 kd, .int .i64 W, .string s, .string t, .string u] 33)).alloc (.cells #[.pointer (some ⟨y, 0, none⟩), .pointer (some ⟨n, 0, none⟩)] 36) = W0 at *
                    refine (step_ch y n A' kd W s t u _ HS.out (HPQ.out.2.1.below hbW) HK.out).mono ?_
                    rintro e w2 ⟨rfl, ⟨A2, hp2⟩, hf⟩
                    have hI := inv_right hx hm hy hn hxy hmn (by unfold Lay; rw [hbW.block _ hlN]; exact HPQ.out.2.2.1) (HPQ.out.1.below hbW) (HPQ.out.2.1.below hbW) (HPQ.out.2.2.2.trans (hbW.mono HPQ.out.2.2.2.size)) hp2 hf
                    clear hp2 hf hbW
                    go_wp2_with fail
                    go_roundw
                    case rel => (repeat apply Exists.intro); refine ⟨?_, rfl⟩; exact ⟨k + 1, by omega, by go_num, hI⟩
                    case measure => simp [intOf]; omega
                · have q1 : decide (kd ≤ 3) = false := by simpa using k3
                  have HB := hid (fun O => (Below.refl _ wr).alloc (Nat.le_refl _) O)
                  clear hp hq hL hbel
                  go_wp2_with fail
                  go_roundw
                  case rel => exact ⟨k + 1, by omega, by go_num, HINV.out.below (HB.out _)⟩
                  case measure => simp [intOf]; omega
              · have q1 : decide (1 ≤ kd) = false := by simpa using k1
                have HB := hid (fun O => (Below.refl _ wr).alloc (Nat.le_refl _) O)
                clear hp hq hL hbel
                go_wp2_with fail
                go_roundw
                case rel => exact ⟨k + 1, by omega, by go_num, HINV.out.below (HB.out _)⟩
                case measure => simp [intOf]; omega
          · have hd2 : decide ((k : Int) < 1152921504606846976) = false := by simpa using hmax
            go_wp2_with fail
            go_ret
            obtain ⟨_, _, _, _, _, _, _, _, _, _, _, _, _, _, _, hbel⟩ := hinv
            exact ⟨rfl, hbel⟩
        · have hd : decide ((k : Int) < (len : Int)) = false := by simp; omega
          go_wp2_with fail
          go_ret
          obtain ⟨_, _, _, _, _, _, _, _, _, _, _, _, _, _, _, hbel⟩ := hinv
          exact ⟨rfl, hbel⟩
end Go.Proofs.Ytmjlcajcobbcgaa

namespace Go.Proofs.Ytmjlcajcobbcgaa
open Go.RowKit

set_option maxRecDepth 100000 in
set_option maxHeartbeats 1000000 in
theorem UpTo_zero (ao : Option Addr) (cap : Nat) (lo hi : Int) (w : World) :
    Calls Try.prog 15 #[.slice ao 0 cap, .int .i64 lo, .int .i64 hi] w fun e w' => e = .returned (.int .i64 (-1)) ∧ Below w.heap.size w w' := by
  have hmk := make_worlds
  go_enter Try.func15, Try.ntmps15
  go_wp2_with fail
  go_loopw [8] (fun i wr => ∃ k : Nat, i = .int .i64 k ∧ Ini w wr k) (fun i _ => 2 - (intOf i).toNat)
  case atStart => exact ⟨0, rfl, (Below.refl _ _).alloc (Nat.le_refl _) _, .inl ⟨rfl, heap_alloc_new w _⟩⟩
  case round =>
    obtain ⟨k, rfl, hbel, hi⟩ := hrel
    have hsz := hbel.size
    rcases hi with ⟨rfl, hL⟩ | ⟨rfl, x, m, hx, hm, hL, hp⟩ | ⟨rfl, x, m, y, n, hx, hm, hy, hn, hxy, hmn, hL, hp, hq⟩
    · go_wp2_with fail
      refine (fresh_any _).mono ?_
      rintro e w1 ⟨x, m, rfl, hx, hm, hp, hbel1⟩
      have hL1 : w1.heap[w.heap.size]? = some (.cells #[.pointer none, .pointer none, .pointer none, .pointer none] 36 (0, 0)) := by rw [hbel1.block _ (lt_of_block hL)]; exact hL
      have c0 := block_cell (j := 0) hL1
      have c1 := block_cell (j := 1) hL1
      have f0 := block_free (j := 0) hL1
      have f1 := block_free (j := 1) hL1
      have hlt1 := lt_of_block hL1
      simp only [List.getElem?_toArray, List.getElem?_cons_zero, List.getElem?_cons_succ] at c0 c1
      have HI := hid (fun C => ini_one C hbel hL hx hm hp hbel1)
      clear hL1 hbel hbel1 hL hx hm hp hsz
      go_wp2_with fail
      exact ⟨⟨1, rfl, HI.out _⟩, by simp [intOf]⟩
    · go_wp2_with fail
      refine (fresh_any _).mono ?_
      rintro e w1 ⟨y, n, rfl, hy, hn, hq, hbel1⟩
      have hL1 : w1.heap[w.heap.size]? = some (.cells #[.pointer (some ⟨x, 0, none⟩), .pointer (some ⟨m, 0, none⟩), .pointer none, .pointer none] 36 (0, 0)) := by rw [hbel1.block _ (lt_of_block hL)]; exact hL
      have c0 := block_cell (j := 2) hL1
      have c1 := block_cell (j := 3) hL1
      have f0 := block_free (j := 2) hL1
      have f1 := block_free (j := 3) hL1
      have hlt1 := lt_of_block hL1
      simp only [List.getElem?_toArray, List.getElem?_cons_zero, List.getElem?_cons_succ] at c0 c1
      have HI := hid (fun C => ini_two C hbel hx hm hL hp hy hn hq hbel1)
      clear hL1 hbel hbel1 hL hx hm hp hsz hy hn hq
      go_wp2_with fail
      exact ⟨⟨2, rfl, HI.out _⟩, by simp [intOf]⟩
    · have hinv : Inv w wr := ⟨x, m, y, n, [], [], hx, hm, hy, hn, hxy, hmn, hL, hp, hq, hbel⟩
      clear hbel hsz hx hm hy hn hxy hmn hL hp hq hmk
      go_wp2_with fail
      refine wp_loop_rounds 1 ?_
      rw [rounds_succ]
      go_wp2_with fail
      go_ret
      obtain ⟨_, _, _, _, _, _, _, _, _, _, _, _, _, _, _, hbel⟩ := hinv
      exact ⟨rfl, hbel⟩

theorem Texts_some (g off len cap : Nat) (w : World) (hg : g < w.heap.size) (hlc : len ≤ cap) (hcm : cap ≤ 9223372036854775807)
    (hc : ∀ k, k < len → ∃ (kd W : Int) (s t u : ByteArray), w.cell? ⟨g, off + k * 5, none⟩ = some (.int .i64 kd) ∧ w.cell? ⟨g, off + k * 5 + 1, none⟩ = some (.int .i64 W) ∧ w.cell? ⟨g, off + k * 5 + 2, none⟩ = some (.string s) ∧ w.cell? ⟨g, off + k * 5 + 3, none⟩ = some (.string t) ∧ w.cell? ⟨g, off + k * 5 + 4, none⟩ = some (.string u) ∧ s.size ≤ maxLen) :
    Calls Try.prog 3 #[.slice (some ⟨g, off, none⟩) len cap] w fun e w' => e = .returned (.bool true) ∧ Below w.heap.size w w' := by
  have HU := hid (UpTo_13 g off len cap w hg hlc hcm hc)
  clear hc
  go_enter Try.func3, Try.ntmps3
  go_wp2_with fail
  refine HU.out.mono ?_
  rintro e w1 ⟨rfl, hbel⟩
  go_wp2_with fail
  go_ret
  exact ⟨rfl, hbel⟩
theorem Texts_zero (ao : Option Addr) (cap : Nat) (w : World) :
    Calls Try.prog 3 #[.slice ao 0 cap] w fun e w' => e = .returned (.bool true) ∧ Below w.heap.size w w' := by
  have HU := hid (UpTo_zero ao cap 1 3 w)
  go_enter Try.func3, Try.ntmps3
  go_wp2_with fail
  refine HU.out.mono ?_
  rintro e w1 ⟨rfl, hbel⟩
  go_wp2_with fail
  go_ret
  exact ⟨rfl, hbel⟩
end Go.Proofs.Ytmjlcajcobbcgaa

namespace Go.Proofs.Ytmjlcajcobbcgaa
open Go.RowKit

/-- A program's text. -/
def cat (A : List Al.St) : List UInt8 := (A.map Al.txt).flatten
theorem cat_snoc (A : List Al.St) (s : Al.St) : cat (A ++ [s]) = cat A ++ Al.txt s := by simp [cat]
theorem cat_succ {A : List Al.St} {k : Nat} (h : k < A.length) : cat (A.take (k + 1)) = cat (A.take k) ++ Al.txt A[k] := by rw [List.take_succ_eq_append_getElem h, cat_snoc]
theorem txt_le (s : Al.St) : (Al.txt s).length ≤ 6 := by
  simp only [Al.txt, List.length_map, Al.shp_length]
  exact (Al.shpLen_ge s.1).2
theorem cat_le : ∀ (A : List Al.St), (cat A).length ≤ 6 * A.length
  | [] => by simp [cat]
  | a :: A => by
    have h1 := txt_le a
    have h2 := cat_le A
    simp only [cat, List.map_cons, List.flatten_cons, List.length_append, List.length_cons] at h2 ⊢
    omega

theorem convert_nil (w : World) : (convert 67 9 (.slice none 0 0)).run Try.prog w = .ok (.string (bs [])) w := by
  rw [run_convert_bytes_string w 67 9 5 none 0 0 Try.underlying67 Try.underlying5 Try.underlying9]
  rfl
theorem convert_any {w : World} {base : Nat} {v : Value} {l : List UInt8} (h : w.ownsRow base 5 1 v l.length (l.map bv)) : (convert 67 9 v).run Try.prog w = .ok (.string (bs l)) w := by
  rcases h.2 with ⟨rfl, hn⟩ | ⟨g, cap, cur, rfl, _, hg, hl, hm, hsz, htk⟩
  · rw [List.eq_nil_of_length_eq_zero hn]; exact convert_nil w
  · exact run_convert_bytes_back w 67 9 5 ⟨g, 0, none⟩ cap l Try.underlying67 Try.underlying5 Try.underlying9 (fun j hj => h.cells (g := g) rfl j _ (by simp [bv, hj]))

theorem round_frame8 {w1 wr w2 : World} {B : Nat} {S : Al.St} {v : Value} {n : Nat} {xs : List Value} (hown : wr.ownsRow B 5 1 v n xs) (hbel : Below B w1 wr) (hsz : B ≤ wr.heap.size)
    (hbel2 : Below (wr.alloc (.cells (stA S) 72)).heap.size (wr.alloc (.cells (stA S) 72)) w2) :
    w2.ownsRow B 5 1 v n xs ∧ Below B w1 w2 ∧ B ≤ w2.heap.size := by
  have h1 := hbel2.size
  rw [World.size_alloc] at h1
  exact ⟨ownsRow_below (hown.alloc _) hbel2, (hbel.alloc hsz _).trans (hbel2.mono (by rw [World.size_alloc]; omega)), by omega⟩

set_option maxRecDepth 100000 in
set_option maxHeartbeats 1000000 in
theorem aPrint_some (b : Nat) (A : List Al.St) (g cap : Nat) (w : World) (hb : w.cell? ⟨b, 0, none⟩ = some (.slice (some ⟨g, 0, none⟩) A.length cap)) (hg : g < w.heap.size)
    (hc : ∀ k (h : k < A.length), w.cell? ⟨g, k * 5, none⟩ = some (.int .i64 (A[k].1 : Nat)) ∧ w.cell? ⟨g, k * 5 + 1, none⟩ = some (.int .u8 (A[k].2.1.toNat : Nat)) ∧ w.cell? ⟨g, k * 5 + 2, none⟩ = some (.int .u8 (A[k].2.2.1.toNat : Nat)) ∧
        w.cell? ⟨g, k * 5 + 3, none⟩ = some (.int .u8 (A[k].2.2.2.1.toNat : Nat)) ∧ w.cell? ⟨g, k * 5 + 4, none⟩ = some (.int .u8 (A[k].2.2.2.2.toNat : Nat)))
    (hs : A.length ≤ 24) :
    Calls Try.prog 17 #[.pointer (some ⟨b, 0, none⟩)] w fun e w' => e = .returned (.string (bs (cat A))) ∧ Below w.heap.size w w' := by
  obtain ⟨i0, hi, hz0, hz1, hz2⟩ := info_parts Try.info5
  have HC := hid hc
  clear hc
  go_enter Try.func17, Try.ntmps17
  go_wp2_with fail
  go_loopw [3, 12] (fun v i wr => ∃ k : Nat, k ≤ A.length ∧ i = .int .i64 k ∧ wr.ownsRow w.heap.size 5 1 v (cat (A.take k)).length ((cat (A.take k)).map bv) ∧ Below w.heap.size w wr) (fun _ i _ => A.length - (intOf i).toNat)
  case atStart => exact ⟨0, Nat.zero_le _, rfl, World.ownsRow_nil _ _ _ _, Below.refl _ _⟩
  case round =>
    obtain ⟨k, hk, rfl, hown, hbel⟩ := hrel
    have hsz := hbel.size
    have hcl := cat_le (A.take k)
    have htl : (A.take k).length ≤ k := List.length_take_le _ _
    by_cases hlt : k < A.length
    · have HCS := hid (cat_succ hlt)
      generalize cat (A.take k) = L at *
      obtain ⟨c0, c1, c2, c3, c4⟩ := HC.out k hlt
      generalize A[k] = a at *
      have HTA := hid (text_any a)
      have hta := txt_le a
      obtain ⟨X, hX⟩ : ∃ X, Al.txt a = X := ⟨_, rfl⟩
      rw [hX] at HTA hta HCS
      clear hX
      obtain ⟨ak, ax, ay, ao, af⟩ := a
      simp only [stA] at HTA
      have d0 := (hbel.cell (p := ⟨g, k * 5, none⟩) hg).trans c0
      have d1 := (hbel.cell (p := ⟨g, k * 5 + 1, none⟩) hg).trans c1
      have d2 := (hbel.cell (p := ⟨g, k * 5 + 2, none⟩) hg).trans c2
      have d3 := (hbel.cell (p := ⟨g, k * 5 + 3, none⟩) hg).trans c3
      have d4 := (hbel.cell (p := ⟨g, k * 5 + 4, none⟩) hg).trans c4
      simp only at d0 d1 d2 d3 d4
      clear c0 c1 c2 c3 c4
      go_wp2_with fail
      refine (HTA.out _).mono ?_
      rintro e w2 ⟨rfl, hbel2⟩
      obtain ⟨hown2, hbel3, hsz2⟩ := round_frame8 (S := (ak, ax, ay, ao, af)) hown hbel hsz hbel2
      have hbX : (bs X).size = X.length := rfl
      clear hown hbel hbel2 d0 d1 d2 d3 d4 hb
      go_wp2_with (at_builtin; refine Lib.wpList_append_own_string _ rfl (.tmp 18) (.tmp 19) 67 9 rfl w.heap.size 5 i0 Try.underlying67 Try.underlying9 hi hz0 hz1 hz2 _ L.length (L.map bv) rfl hown2 (bs X) rfl (by rw [hbX]; unfold maxLen; omega) (by rw [hbX]; omega) hsz2 ?_; intro v3 w3 hown3 hgr _; have hbel4 := hbel3.grown hgr hsz2 (fun q hq => (hown2.lt q hq).1))
      go_roundw
      case rel => exact ⟨k + 1, by omega, by go_num, by rw [HCS.out, List.map_append, List.length_append]; exact hown3, hbel4⟩
      case measure => simp [intOf]; omega
    · rw [List.take_of_length_le (by omega)] at hown
      have hcv := convert_any hown
      clear hown
      go_wp2
      go_ret
      exact ⟨rfl, hbel⟩
set_option maxRecDepth 100000 in
set_option maxHeartbeats 1000000 in
theorem aPrint_nil (b : Nat) (w : World) (hb : w.cell? ⟨b, 0, none⟩ = some (.slice none 0 0)) :
    Calls Try.prog 17 #[.pointer (some ⟨b, 0, none⟩)] w fun e w' => e = .returned (.string (bs (cat []))) ∧ Below w.heap.size w w' := by
  have hcv := convert_nil w
  go_enter Try.func17, Try.ntmps17
  go_wp2_with fail
  refine wp_loop_rounds 1 ?_
  rw [rounds_succ]
  go_wp2_with fail
  go_ret
  exact ⟨rfl, Below.refl _ _⟩
theorem aPrint_any (b : Nat) (A : List Al.St) (w : World) (hS : ASess w b A) (hs : A.length ≤ 24) :
    Calls Try.prog 17 #[.pointer (some ⟨b, 0, none⟩)] w fun e w' => e = .returned (.string (bs (cat A))) ∧ Below w.heap.size w w' := by
  obtain ⟨v, hv, hr⟩ := hS.ex
  have hcv := cell_of_one hv
  rcases hr.shape with ⟨rfl, rfl⟩ | ⟨g, cap, rfl, hl, hm, hg, hc⟩
  · exact aPrint_nil b w hcv
  · exact aPrint_some b A g cap w hcv hg hc hs

theorem map_take (A : List Al.St) (k : Nat) : cat (A.take k) = ((A.map Al.txt).take k).flatten := by simp [cat, List.map_take]
theorem bs_append (a b : List UInt8) : bs a ++ bs b = bs (a ++ b) := by
  have := ByteArray.mk_append_mk a b
  exact this

set_option maxRecDepth 100000 in
set_option maxHeartbeats 1000000 in
theorem rPrint_some (b : Nat) (A : List Al.St) (g cap : Nat) (w : World) (hb : w.cell? ⟨b, 0, none⟩ = some (.slice (some ⟨g, 0, none⟩) A.length cap))
    (hc : ∀ k (h : k < A.length), w.cell? ⟨g, k, none⟩ = some (.string (bs (Al.txt A[k])))) (hs : A.length ≤ 24) :
    Calls Try.prog 69 #[.pointer (some ⟨b, 0, none⟩)] w fun e w' => e = .returned (.string (bs (cat A))) ∧ w' = w := by
  have hba := bs_append
  go_enter Try.func69, Try.ntmps69
  go_wp2_with fail
  go_loop [3, 4] (fun t i => ∃ k : Nat, k ≤ A.length ∧ i = .int .i64 k ∧ t = .string (bs (cat (A.take k)))) (fun _ i => A.length - (intOf i).toNat)
  case atStart => exact ⟨0, Nat.zero_le _, rfl, rfl⟩
  case round =>
    obtain ⟨k, hk, rfl, rfl⟩ := hrel
    have hcl := cat_le (A.take k)
    have htl : (A.take k).length ≤ k := List.length_take_le _ _
    by_cases hlt : k < A.length
    · have HCS := hid (cat_succ hlt)
      have hcell := hc k hlt
      have hta := txt_le A[k]
      generalize Al.txt A[k] = X at *
      generalize cat (A.take k) = L at *
      have h1 : (bs L).size = L.length := rfl
      have h2 : (bs X).size = X.length := rfl
      clear hc
      go_wp2
      go_round
      case rel => exact ⟨k + 1, by omega, by go_num, by rw [HCS.out]⟩
      case measure => simp [intOf]; omega
    · rw [List.take_of_length_le (by omega)]
      clear hc
      go_wp2
      go_ret
      exact ⟨rfl, rfl⟩
set_option maxRecDepth 100000 in
set_option maxHeartbeats 1000000 in
theorem rPrint_nil (b : Nat) (w : World) (hb : w.cell? ⟨b, 0, none⟩ = some (.slice none 0 0)) :
    Calls Try.prog 69 #[.pointer (some ⟨b, 0, none⟩)] w fun e w' => e = .returned (.string (bs (cat []))) ∧ w' = w := by
  go_enter Try.func69, Try.ntmps69
  go_wp2_with fail
  refine wp_loop_rounds 1 ?_
  rw [rounds_succ]
  go_wp2_with fail
  go_ret
  exact ⟨rfl, rfl⟩
theorem rPrint_any (b : Nat) (A : List Al.St) (w : World) (hS : RSess w b A) (hs : A.length ≤ 24) :
    Calls Try.prog 69 #[.pointer (some ⟨b, 0, none⟩)] w fun e w' => e = .returned (.string (bs (cat A))) ∧ w' = w := by
  obtain ⟨v, hv, hr⟩ := hS.ex
  have hcv := cell_of_one hv
  rcases hr.shape with ⟨rfl, hn⟩ | ⟨g, cap, rfl, hl, hm, hg, hc⟩
  · have : A = [] := by simpa using hn
    subst this
    exact rPrint_nil b w hcv
  · refine rPrint_some b A g cap w (by simpa using hcv) (fun k hk => ?_) hs
    have := hc k (by simpa using hk)
    simpa using this
end Go.Proofs.Ytmjlcajcobbcgaa
