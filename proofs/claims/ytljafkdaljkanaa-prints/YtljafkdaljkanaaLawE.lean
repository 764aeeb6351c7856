import Derived.Test.YtljafkdaljkanaaLawD
namespace Go.Proofs.Ytljafkdaljkanaa
open Go.RowKit

set_option maxRecDepth 100000 in
set_option maxHeartbeats 1000000 in
theorem UpTo_zero (ao : Option Addr) (cap : Nat) (lo hi : Int) (w : World) :
    Calls Try.prog 14 #[.slice ao 0 cap, .int .i64 lo, .int .i64 hi] w fun e w' => e = .returned (.int .i64 (-1)) ∧ Below w.heap.size w w' := by
  have hmk := make_worlds
  go_enter Try.func14, Try.ntmps14
  go_wp2_with fail
  go_loopw [8] (fun i wr => ∃ k : Nat, i = .int .i64 k ∧ Ini w wr k) (fun i _ => 2 - (intOf i).toNat)
  case atStart => exact ⟨0, rfl, (Below.refl _ _).alloc (Nat.le_refl _) _, .inl ⟨rfl, heap_alloc_new w _⟩⟩
  case round =>
    obtain ⟨k, rfl, hbel, hi⟩ := hrel
    have hsz := hbel.size
    rcases hi with ⟨rfl, hL⟩ | ⟨rfl, x, m, hx, hm, hL, hp⟩ | ⟨rfl, x, m, y, n, hx, hm, hy, hn, hxy, hmn, hL, hp, hq⟩
    · go_wp2_with fail
      refine (fresh_any _).mono ?_
      rintro e w1 ⟨x, m, rfl, hx, hm, hp, hbel1⟩
      have hL1 : w1.heap[w.heap.size]? = some (.cells #[.pointer none, .pointer none, .pointer none, .pointer none] 36 (0, 0)) := by rw [hbel1.block _ (lt_of_block hL)]; exact hL
      have c0 := block_cell (j := 0) hL1
      have c1 := block_cell (j := 1) hL1
      have f0 := block_free (j := 0) hL1
      have f1 := block_free (j := 1) hL1
      have hlt1 := lt_of_block hL1
      simp only [List.getElem?_toArray, List.getElem?_cons_zero, List.getElem?_cons_succ] at c0 c1
      have HI := hid (fun C => ini_one C hbel hL hx hm hp hbel1)
      clear hL1 hbel hbel1 hL hx hm hp hsz
      go_wp2_with fail
      exact ⟨⟨1, rfl, HI.out _⟩, by simp [intOf]⟩
    · go_wp2_with fail
      refine (fresh_any _).mono ?_
      rintro e w1 ⟨y, n, rfl, hy, hn, hq, hbel1⟩
      have hL1 : w1.heap[w.heap.size]? = some (.cells #[.pointer (some ⟨x, 0, none⟩), .pointer (some ⟨m, 0, none⟩), .pointer none, .pointer none] 36 (0, 0)) := by rw [hbel1.block _ (lt_of_block hL)]; exact hL
      have c0 := block_cell (j := 2) hL1
      have c1 := block_cell (j := 3) hL1
      have f0 := block_free (j := 2) hL1
      have f1 := block_free (j := 3) hL1
      have hlt1 := lt_of_block hL1
      simp only [List.getElem?_toArray, List.getElem?_cons_zero, List.getElem?_cons_succ] at c0 c1
      have HI := hid (fun C => ini_two C hbel hx hm hL hp hy hn hq hbel1)
      clear hL1 hbel hbel1 hL hx hm hp hsz hy hn hq
      go_wp2_with fail
      exact ⟨⟨2, rfl, HI.out _⟩, by simp [intOf]⟩
    · have hinv : Inv w wr := ⟨x, m, y, n, [], [], hx, hm, hy, hn, hxy, hmn, hL, hp, hq, hbel⟩
      clear hbel hsz hx hm hy hn hxy hmn hL hp hq hmk
      go_wp2_with fail
      refine wp_loop_rounds 1 ?_
      rw [rounds_succ]
      go_wp2_with fail
      go_ret
      obtain ⟨_, _, _, _, _, _, _, _, _, _, _, _, _, _, _, hbel⟩ := hinv
      exact ⟨rfl, hbel⟩

theorem Texts_some (g off len cap : Nat) (w : World) (hg : g < w.heap.size) (hlc : len ≤ cap) (hcm : cap ≤ 9223372036854775807)
    (hc : ∀ k, k < len → ∃ (kd W : Int) (s t u : ByteArray), w.cell? ⟨g, off + k * 5, none⟩ = some (.int .i64 kd) ∧ w.cell? ⟨g, off + k * 5 + 1, none⟩ = some (.int .i64 W) ∧ w.cell? ⟨g, off + k * 5 + 2, none⟩ = some (.string s) ∧ w.cell? ⟨g, off + k * 5 + 3, none⟩ = some (.string t) ∧ w.cell? ⟨g, off + k * 5 + 4, none⟩ = some (.string u) ∧ s.size ≤ maxLen) :
    Calls Try.prog 3 #[.slice (some ⟨g, off, none⟩) len cap] w fun e w' => e = .returned (.bool true) ∧ Below w.heap.size w w' := by
  have HU := hid (UpTo_13 g off len cap w hg hlc hcm hc)
  clear hc
  go_enter Try.func3, Try.ntmps3
  go_wp2_with fail
  refine HU.out.mono ?_
  rintro e w1 ⟨rfl, hbel⟩
  go_wp2_with fail
  go_ret
  exact ⟨rfl, hbel⟩
theorem Texts_zero (ao : Option Addr) (cap : Nat) (w : World) :
    Calls Try.prog 3 #[.slice ao 0 cap] w fun e w' => e = .returned (.bool true) ∧ Below w.heap.size w w' := by
  have HU := hid (UpTo_zero ao cap 1 3 w)
  go_enter Try.func3, Try.ntmps3
  go_wp2_with fail
  refine HU.out.mono ?_
  rintro e w1 ⟨rfl, hbel⟩
  go_wp2_with fail
  go_ret
  exact ⟨rfl, hbel⟩
end Go.Proofs.Ytljafkdaljkanaa
