import Derived.Test.YtmjlcajcobbcgabXa
import Derived.Test.YtmjlcajcobbcgabXf
import Derived.Laws.BitsLemmas
import Derived.Test.YtmjlcajcobbcgabXg
import Derived.Test.YtmjlcajcobbcgabXd
namespace Go.Proofs.Ytmjlcajcobbcgab
open Go.RowKit

theorem wrap_small (n : Int) (h0 : 0 ≤ n) (h1 : n < 2 ^ 12) : IntKind.i64.wrap n = n := IntWalk.i64_in _ ⟨by omega, by omega⟩
theorem and_i64 {a b : Nat} (ha : a < 4096) (hb : b < 4096) : bits .and .i64 (a : Int) (b : Int) = ((a &&& b : Nat) : Int) := (bits_nat .i64 12 (by decide) wrap_small a b ha hb).1
theorem or_i64 {a b : Nat} (ha : a < 4096) (hb : b < 4096) : bits .or .i64 (a : Int) (b : Int) = ((a ||| b : Nat) : Int) := (bits_nat .i64 12 (by decide) wrap_small a b ha hb).2
/-- The cells of a table. -/
def tabA (R : Al.Rw) : Array Value := #[.int .i64 (R 0 : Nat), .int .i64 (R 1 : Nat), .int .i64 (R 2 : Nat), .int .i64 (R 3 : Nat), .int .i64 (R 4 : Nat), .int .i64 (R 5 : Nat), .int .i64 (R 6 : Nat), .int .i64 (R 7 : Nat), .int .i64 (R 8 : Nat), .int .i64 (R 9 : Nat), .int .i64 (R 10 : Nat), .int .i64 (R 11 : Nat)]
theorem tabA_get (R : Al.Rw) (i : Nat) (h : i < 12) : (tabA R)[i]? = some (.int .i64 (R i : Nat)) := by
  rcases (show i = 0 ∨ i = 1 ∨ i = 2 ∨ i = 3 ∨ i = 4 ∨ i = 5 ∨ i = 6 ∨ i = 7 ∨ i = 8 ∨ i = 9 ∨ i = 10 ∨ i = 11 by omega) with rfl | rfl | rfl | rfl | rfl | rfl | rfl | rfl | rfl | rfl | rfl | rfl <;> rfl
theorem tabA_size (R : Al.Rw) : (tabA R).size = 12 := rfl

set_option maxHeartbeats 1000000 in
theorem of_any (R : Al.Rw) (c : Nat) (w : World) (hc : c ≤ 255) :
    Calls Try.prog 38 #[.agg (tabA R), .int .u8 c] w fun e w' => e = .returned (.int .i64 (Al.rowAt R c : Nat)) ∧ w' = w.alloc (.cells (tabA R) 75) := by
  by_cases h1 : 97 ≤ c
  · obtain ⟨i, rfl⟩ : ∃ i, c = 97 + i := ⟨c - 97, by omega⟩
    by_cases hi : i < 12
    · have HF : Hid (Al.rowAt R (97 + i) = R i) := by rw [Hid, Al.rowAt, if_pos ⟨h1, by omega⟩]; congr 1; omega
      have hg := tabA_get R i hi
      generalize tabA R = X at *
      go_enter Try.func38, Try.ntmps38
      go_wp2
      go_ret
      exact ⟨by rw [HF.out]; rfl, rfl⟩
    · have HF : Hid (Al.rowAt R (97 + i) = 0) := by rw [Hid, Al.rowAt, if_neg (by omega)]
      generalize tabA R = X at *
      go_enter Try.func38, Try.ntmps38
      go_wp2
      go_ret
      exact ⟨by rw [HF.out]; rfl, rfl⟩
  · have HF : Hid (Al.rowAt R c = 0) := by rw [Hid, Al.rowAt, if_neg (by omega)]
    generalize tabA R = X at *
    go_enter Try.func38, Try.ntmps38
    go_wp2
    go_ret
    exact ⟨by rw [HF.out]; rfl, rfl⟩

set_option maxHeartbeats 1000000 in
theorem only_any (c : Nat) (w : World) (hc : c ≤ 255) :
    Calls Try.prog 70 #[.int .u8 c] w fun e w' => e = .returned (.int .i64 (Al.onlyR c : Nat)) ∧ w' = w := by
  by_cases h1 : 65 ≤ c
  · obtain ⟨i, rfl⟩ : ∃ i, c = 65 + i := ⟨c - 65, by omega⟩
    by_cases hi : i < 12
    · have HF : Hid (Al.onlyR (65 + i) = 2 ^ i) := by rw [Hid, Al.onlyR, if_pos ⟨h1, by omega⟩]; congr 1; omega
      rcases (show i = 0 ∨ i = 1 ∨ i = 2 ∨ i = 3 ∨ i = 4 ∨ i = 5 ∨ i = 6 ∨ i = 7 ∨ i = 8 ∨ i = 9 ∨ i = 10 ∨ i = 11 by omega) with rfl | rfl | rfl | rfl | rfl | rfl | rfl | rfl | rfl | rfl | rfl | rfl <;>
      · go_enter Try.func70, Try.ntmps70
        go_wp2
        go_ret
        exact ⟨by rw [HF.out]; rfl, rfl⟩
    · have HF : Hid (Al.onlyR (65 + i) = 0) := by rw [Hid, Al.onlyR, if_neg (by omega)]
      go_enter Try.func70, Try.ntmps70
      go_wp2
      go_ret
      exact ⟨by rw [HF.out]; rfl, rfl⟩
  · have HF : Hid (Al.onlyR c = 0) := by rw [Hid, Al.onlyR, if_neg (by omega)]
    go_enter Try.func70, Try.ntmps70
    go_wp2
    go_ret
    exact ⟨by rw [HF.out]; rfl, rfl⟩

theorem tabA_plus (R : Al.Rw) (i m : Nat) (hi : i < 12) : (tabA R).setIfInBounds i (.int .i64 (R i ||| m : Nat)) = tabA (Al.plusR R (97 + i) m) := by
  have key : ∀ j, Al.plusR R (97 + i) m j = if j = i then R j ||| m else R j := by
    intro j
    unfold Al.plusR
    by_cases e : j = i
    · rw [if_pos ⟨by omega, by omega, by omega⟩, if_pos e]
    · rw [if_neg (by omega), if_neg e]
  unfold tabA
  simp only [key]
  rcases (show i = 0 ∨ i = 1 ∨ i = 2 ∨ i = 3 ∨ i = 4 ∨ i = 5 ∨ i = 6 ∨ i = 7 ∨ i = 8 ∨ i = 9 ∨ i = 10 ∨ i = 11 by omega) with rfl | rfl | rfl | rfl | rfl | rfl | rfl | rfl | rfl | rfl | rfl | rfl <;> rfl

set_option maxRecDepth 100000 in
set_option maxHeartbeats 1000000 in
theorem plus_any (R : Al.Rw) (c m : Nat) (w : World) (hc : c ≤ 255) (hR : Al.OkR R) (hm : m < 4096) :
    Calls Try.prog 69 #[.agg (tabA R), .int .u8 c, .int .i64 m] w fun e w' => e = .returned (.agg (tabA (Al.plusR R c m))) ∧ Below w.heap.size w w' := by
  by_cases h1 : 97 ≤ c
  · obtain ⟨i, rfl⟩ : ∃ i, c = 97 + i := ⟨c - 97, by omega⟩
    by_cases hi : i < 12
    · have hset := tabA_plus R i m hi
      have hg := tabA_get R i hi
      have hor := or_i64 (hR i hi) hm
      generalize Al.plusR R (97 + i) m = Q at *
      have HQ : Hid (#[.int .i64 (Q 0 : Nat), .int .i64 (Q 1 : Nat), .int .i64 (Q 2 : Nat), .int .i64 (Q 3 : Nat), .int .i64 (Q 4 : Nat), .int .i64 (Q 5 : Nat), .int .i64 (Q 6 : Nat), .int .i64 (Q 7 : Nat), .int .i64 (Q 8 : Nat), .int .i64 (Q 9 : Nat), .int .i64 (Q 10 : Nat), .int .i64 (Q 11 : Nat)] = tabA Q) := rfl
      have y0 := tabA_get Q 0 (by omega)
      have y1 := tabA_get Q 1 (by omega)
      have y2 := tabA_get Q 2 (by omega)
      have y3 := tabA_get Q 3 (by omega)
      have y4 := tabA_get Q 4 (by omega)
      have y5 := tabA_get Q 5 (by omega)
      have y6 := tabA_get Q 6 (by omega)
      have y7 := tabA_get Q 7 (by omega)
      have y8 := tabA_get Q 8 (by omega)
      have y9 := tabA_get Q 9 (by omega)
      have y10 := tabA_get Q 10 (by omega)
      have y11 := tabA_get Q 11 (by omega)
      generalize tabA R = X at *
      generalize tabA Q = Y at *
      clear hR
      go_enter Try.func69, Try.ntmps69
      go_wp2
      exact bodyPost_ret (v := .agg #[.int .i64 (Q 0 : Nat), .int .i64 (Q 1 : Nat), .int .i64 (Q 2 : Nat), .int .i64 (Q 3 : Nat), .int .i64 (Q 4 : Nat), .int .i64 (Q 5 : Nat), .int .i64 (Q 6 : Nat), .int .i64 (Q 7 : Nat), .int .i64 (Q 8 : Nat), .int .i64 (Q 9 : Nat), .int .i64 (Q 10 : Nat), .int .i64 (Q 11 : Nat)]) (by simp [results, Try.results69, go_sem]) rfl ⟨by rw [HQ.out], ((Below.refl _ _).alloc (Nat.le_refl _) _).alloc (by simp) _⟩
    · have HPL : Hid (Al.plusR R (97 + i) m = R) := by funext v; unfold Al.plusR; rw [if_neg (by omega)]
      have y0 := tabA_get R 0 (by omega)
      have y1 := tabA_get R 1 (by omega)
      have y2 := tabA_get R 2 (by omega)
      have y3 := tabA_get R 3 (by omega)
      have y4 := tabA_get R 4 (by omega)
      have y5 := tabA_get R 5 (by omega)
      have y6 := tabA_get R 6 (by omega)
      have y7 := tabA_get R 7 (by omega)
      have y8 := tabA_get R 8 (by omega)
      have y9 := tabA_get R 9 (by omega)
      have y10 := tabA_get R 10 (by omega)
      have y11 := tabA_get R 11 (by omega)
      go_enter Try.func69, Try.ntmps69
      go_wp2
      exact bodyPost_ret (v := .agg (tabA R)) (by simp [results, Try.results69, go_sem, tabA]) rfl ⟨by rw [HPL.out], ((Below.refl _ _).alloc (Nat.le_refl _) _).alloc (by simp) _⟩
  · have HPL : Hid (Al.plusR R c m = R) := by funext v; unfold Al.plusR; rw [if_neg (by omega)]
    have y0 := tabA_get R 0 (by omega)
    have y1 := tabA_get R 1 (by omega)
    have y2 := tabA_get R 2 (by omega)
    have y3 := tabA_get R 3 (by omega)
    have y4 := tabA_get R 4 (by omega)
    have y5 := tabA_get R 5 (by omega)
    have y6 := tabA_get R 6 (by omega)
    have y7 := tabA_get R 7 (by omega)
    have y8 := tabA_get R 8 (by omega)
    have y9 := tabA_get R 9 (by omega)
    have y10 := tabA_get R 10 (by omega)
    have y11 := tabA_get R 11 (by omega)
    go_enter Try.func69, Try.ntmps69
    go_wp2
    exact bodyPost_ret (v := .agg (tabA R)) (by simp [results, Try.results69, go_sem, tabA]) rfl ⟨by rw [HPL.out], ((Below.refl _ _).alloc (Nat.le_refl _) _).alloc (by simp) _⟩
end Go.Proofs.Ytmjlcajcobbcgab

namespace Go.Proofs.Ytmjlcajcobbcgab
open Go.RowKit

theorem tab_cells {w : World} {b : Nat} {R : Al.Rw} (h : w.heap[b]? = some (.cells (tabA R) 75 (0, 0))) (k : Nat) (hk : k < 12) : w.cell? ⟨b, k, none⟩ = some (.int .i64 (R k : Nat)) := by
  rw [cell_of_row w b k _ _ _ h]; exact tabA_get R k hk

theorem tab12 {w : World} {b : Nat} {R : Al.Rw} (h : w.heap[b]? = some (.cells (tabA R) 75 (0, 0))) : w.cell? ⟨b, 0, none⟩ = some (.int .i64 ↑(R 0)) ∧ w.cell? ⟨b, 1, none⟩ = some (.int .i64 ↑(R 1)) ∧ w.cell? ⟨b, 2, none⟩ = some (.int .i64 ↑(R 2)) ∧ w.cell? ⟨b, 3, none⟩ = some (.int .i64 ↑(R 3)) ∧ w.cell? ⟨b, 4, none⟩ = some (.int .i64 ↑(R 4)) ∧ w.cell? ⟨b, 5, none⟩ = some (.int .i64 ↑(R 5)) ∧ w.cell? ⟨b, 6, none⟩ = some (.int .i64 ↑(R 6)) ∧ w.cell? ⟨b, 7, none⟩ = some (.int .i64 ↑(R 7)) ∧ w.cell? ⟨b, 8, none⟩ = some (.int .i64 ↑(R 8)) ∧ w.cell? ⟨b, 9, none⟩ = some (.int .i64 ↑(R 9)) ∧ w.cell? ⟨b, 10, none⟩ = some (.int .i64 ↑(R 10)) ∧ w.cell? ⟨b, 11, none⟩ = some (.int .i64 ↑(R 11)) :=
  ⟨tab_cells h 0 (by decide), tab_cells h 1 (by decide), tab_cells h 2 (by decide), tab_cells h 3 (by decide), tab_cells h 4 (by decide), tab_cells h 5 (by decide), tab_cells h 6 (by decide), tab_cells h 7 (by decide), tab_cells h 8 (by decide), tab_cells h 9 (by decide), tab_cells h 10 (by decide), tab_cells h 11 (by decide)⟩
theorem box_table (w : World) (R : Al.Rw) : (w.alloc (.cells (tabA R) 75)).heap[w.heap.size]? = some (.cells (tabA R) 75 (0, 0)) ∧ Below w.heap.size w (w.alloc (.cells (tabA R) 75)) ∧ w.heap.size < (w.alloc (.cells (tabA R) 75)).heap.size :=
  ⟨heap_alloc_new w _, (Below.refl _ _).alloc (Nat.le_refl _) _, by simp⟩
theorem cast_bne (n : Nat) : ((n : Int) != 0) = (n != 0) := by
  rw [Bool.eq_iff_iff, bne_iff_ne, bne_iff_ne]; omega

set_option maxRecDepth 100000 in
set_option maxHeartbeats 1000000 in
theorem meet_any (R : Al.Rw) (c d : Nat) (w : World) (hc : c ≤ 255) (hd : d ≤ 255) (hR : Al.OkR R) :
    Calls Try.prog 75 #[.agg (tabA R), .int .u8 c, .int .u8 d] w fun e w' => e = .returned (.bool (Al.meetR R c d)) ∧ Below w.heap.size w w' := by
  have HO := hid (fun (q : Nat) (hq : q ≤ 255) wx => of_any R q wx hq)
  have HM : Hid (Al.meetR R c d = (Al.rowAt R c &&& Al.rowAt R d != 0)) := rfl
  have hand := and_i64 (Al.rowAt_ok hR c) (Al.rowAt_ok hR d)
  clear hR
  simp only [tabA] at HO ⊢
  go_enter Try.func75, Try.ntmps75
  go_wp2_with fail
  obtain ⟨hT, hbw, hs1⟩ := box_table w R
  obtain ⟨t0, t1, t2, t3, t4, t5, t6, t7, t8, t9, t10, t11⟩ := tab12 hT
  clear hT
  simp only [tabA] at hbw hs1 t0 t1 t2 t3 t4 t5 t6 t7 t8 t9 t10 t11
  generalize hO : Obj.cells #[.int .i64 ↑(R 0), .int .i64 ↑(R 1), .int .i64 ↑(R 2), .int .i64 ↑(R 3), .int .i64 ↑(R 4), .int .i64 ↑(R 5), .int .i64 ↑(R 6), .int .i64 ↑(R 7), .int .i64 ↑(R 8), .int .i64 ↑(R 9), .int .i64 ↑(R 10), .int .i64 ↑(R 11)] 75 = O at *
  have HBW := hid hbw
  clear hbw hO
  generalize w.alloc O = W at *
  go_region_held3 (fun w' => w'.cell? ⟨w.heap.size, 0, none⟩ = some (.int .i64 ↑(R 0)) ∧ w'.cell? ⟨w.heap.size, 1, none⟩ = some (.int .i64 ↑(R 1)) ∧ w'.cell? ⟨w.heap.size, 2, none⟩ = some (.int .i64 ↑(R 2)) ∧ w'.cell? ⟨w.heap.size, 3, none⟩ = some (.int .i64 ↑(R 3)) ∧ w'.cell? ⟨w.heap.size, 4, none⟩ = some (.int .i64 ↑(R 4)) ∧ w'.cell? ⟨w.heap.size, 5, none⟩ = some (.int .i64 ↑(R 5)) ∧ w'.cell? ⟨w.heap.size, 6, none⟩ = some (.int .i64 ↑(R 6)) ∧ w'.cell? ⟨w.heap.size, 7, none⟩ = some (.int .i64 ↑(R 7)) ∧ w'.cell? ⟨w.heap.size, 8, none⟩ = some (.int .i64 ↑(R 8)) ∧ w'.cell? ⟨w.heap.size, 9, none⟩ = some (.int .i64 ↑(R 9)) ∧ w'.cell? ⟨w.heap.size, 10, none⟩ = some (.int .i64 ↑(R 10)) ∧ w'.cell? ⟨w.heap.size, 11, none⟩ = some (.int .i64 ↑(R 11))) (go_keep) ((go_at_call 38; refine (HO.out _ (by assumption) _).mono ?_; rintro e w' ⟨rfl, rfl⟩))
  go_wp2_with fail
  go_ret
  exact ⟨by rw [HM.out, ← cast_bne]; rfl, (((HBW.out.alloc (by omega) _).alloc (by simp; omega) _)).drew⟩
end Go.Proofs.Ytmjlcajcobbcgab

namespace Go.Proofs.Ytmjlcajcobbcgab
open Go.RowKit

set_option maxHeartbeats 400000 in
theorem toldApart_any (f : List UInt8) (c : UInt8) (w : World) (hl : f.length ≤ 9223372036854775807) : Calls Try.prog 99 #[.string (bs f), .int .u8 (c.toNat : Nat)] w fun e w' => e = .returned (.bool (Al.told f c)) ∧ w' = w := by
  have hsz : (bs f).size = f.length := rfl
  go_enter Try.func99, Try.ntmps99
  go_wp2
  go_loop [5] (fun i => ∃ k : Nat, k ≤ f.length ∧ i = .int .i64 k ∧ Al.told (f.take k) c = false) (fun i => f.length - (intOf i).toNat)
  case atStart => exact ⟨0, Nat.zero_le _, rfl, by simp [Al.told]⟩
  case round =>
    obtain ⟨k, hk, rfl, hh⟩ := hrel
    have HH := hid hh
    clear hh
    by_cases hlt : k < f.length
    · have hi := ix f k k (f[k].toNat : Nat) rfl (by rw [List.getElem?_eq_getElem hlt]; rfl)
      have HS := hid (told_take_succ (c := c) hlt)
      have HM : Hid (f[k] ∈ f) := List.getElem_mem hlt
      generalize f[k] = d at *
      by_cases e : d = c
      · subst e
        have HT : Hid (Al.told f d = true) := by simp only [Hid, Al.told, List.any_eq_true, beq_iff_eq]; exact ⟨d, HM.out, rfl⟩
        go_wp2
        go_ret
        exact ⟨by rw [HT.out]; rfl, rfl⟩
      · have HE : Hid ((d == c) = false) := by simp [Hid, e]
        have hb : ((d.toNat : Int) == (c.toNat : Int)) = false := beq_eq_false_iff_ne.2 (fun h => e (UInt8.toNat_inj.1 (by omega)))
        go_wp2
        go_round
        case rel => exact ⟨k + 1, by omega, by go_num, by rw [HS.out, HH.out, HE.out]; rfl⟩
        case measure => simp [intOf]; omega
    · go_wp2
      go_ret
      exact ⟨by have := HH.out; rw [List.take_of_length_le (by omega)] at this; rw [this]; rfl, rfl⟩

theorem two_boxes (w : World) (R : Al.Rw) (s : Al.St) : ((w.alloc (.cells (tabA R) 75)).alloc (.cells (stA s) 93)).heap[w.heap.size]? = some (.cells (tabA R) 75 (0, 0)) ∧ ((w.alloc (.cells (tabA R) 75)).alloc (.cells (stA s) 93)).heap[w.heap.size + 1]? = some (.cells (stA s) 93 (0, 0)) ∧
    Below w.heap.size w ((w.alloc (.cells (tabA R) 75)).alloc (.cells (stA s) 93)) ∧ w.heap.size + 2 ≤ ((w.alloc (.cells (tabA R) 75)).alloc (.cells (stA s) 93)).heap.size :=
  ⟨by rw [Below.heap_alloc _ _ _ (by simp)]; exact heap_alloc_new w _, heap2 w _ _, ((Below.refl _ _).alloc (Nat.le_refl _) _).alloc (by simp) _, by simp⟩
theorem found_succ {A : List Al.St} {R : Al.Rw} {tld : Bool} {s : Al.St} {k : Nat} (h : k < A.length) : (A.take (k + 1)).foldl (Al.foundStep R tld s) 0 = Al.foundStep R tld s ((A.take k).foldl (Al.foundStep R tld s) 0) A[k] := by
  rw [List.take_succ_eq_append_getElem h, List.foldl_append]; rfl

set_option maxRecDepth 100000 in
set_option maxHeartbeats 2000000 in
theorem found_some (A : List Al.St) (R : Al.Rw) (s : Al.St) (f : List UInt8) (g cap : Nat) (w : World) (hg : g < w.heap.size) (hc : ∀ k (h : k < A.length), w.cell? ⟨g, k * 5, none⟩ = some (.int .i64 (A[k].1 : Nat)) ∧ w.cell? ⟨g, k * 5 + 1, none⟩ = some (.int .u8 (A[k].2.1.toNat : Nat)) ∧ w.cell? ⟨g, k * 5 + 2, none⟩ = some (.int .u8 (A[k].2.2.1.toNat : Nat)) ∧
        w.cell? ⟨g, k * 5 + 3, none⟩ = some (.int .u8 (A[k].2.2.2.1.toNat : Nat)) ∧ w.cell? ⟨g, k * 5 + 4, none⟩ = some (.int .u8 (A[k].2.2.2.2.toNat : Nat)))
    (hs : A.length ≤ 100000) (hR : Al.OkR R) (hf : f.length ≤ 9223372036854775807) :
    Calls Try.prog 88 #[.agg (tabA R), .agg (stA s), .slice (some ⟨g, 0, none⟩) A.length cap, .string (bs f)] w fun e w' => e = .returned (.int .i64 (Al.foundR A R (Al.told f s.2.2.2.2) s : Nat)) ∧ Below w.heap.size w w' := by
  have HC := hid hc
  have HR := hid hR
  have HFR : Hid (Al.foundR A R (Al.told f s.2.2.2.2) s = A.foldl (Al.foundStep R (Al.told f s.2.2.2.2) s) 0) := rfl
  generalize Al.foundR A R (Al.told f s.2.2.2.2) s = FR at *
  have HTA := hid (fun wx => toldApart_any f s.2.2.2.2 wx hf)
  have HOF := hid (fun (q : Nat) (hq : q ≤ 255) wx => of_any R q wx hq)
  have HME := hid (fun (q r : Nat) (hq : q ≤ 255) (hr : r ≤ 255) wx => meet_any R q r wx hq hr hR)
  generalize Al.told f s.2.2.2.2 = tld at *
  clear hc hR hf
  obtain ⟨S, hS⟩ : ∃ S, s = S := ⟨_, rfl⟩
  have HSE := hid hS
  rw [hS] at HFR
  clear hS
  obtain ⟨sk, sx, sy, so, sf⟩ := s
  simp only [stA, tabA] at HOF HME HTA ⊢
  go_enter Try.func88, Try.ntmps88
  go_wp2_with fail
  refine (HTA.out _).mono ?_
  rintro e w' ⟨rfl, rfl⟩
  obtain ⟨hT, hSb, hbw, hsz1⟩ := two_boxes w R (sk, sx, sy, so, sf)
  simp only [stA, tabA] at hT hSb hbw hsz1
  generalize (w.alloc (Obj.cells #[.int .i64 ↑(R 0), .int .i64 ↑(R 1), .int .i64 ↑(R 2), .int .i64 ↑(R 3), .int .i64 ↑(R 4), .int .i64 ↑(R 5), .int .i64 ↑(R 6), .int .i64 ↑(R 7), .int .i64 ↑(R 8), .int .i64 ↑(R 9), .int .i64 ↑(R 10), .int .i64 ↑(R 11)] 75)).alloc (Obj.cells #[.int .i64 ↑sk, .int .u8 ↑sx.toNat, .int .u8 ↑sy.toNat, .int .u8 ↑so.toNat, .int .u8 ↑sf.toNat] 93) = W at *
  have HT := hid hT
  have HSB := hid hSb
  have HBW := hid hbw
  clear hT hSb hbw
  go_wp2_with fail
  go_loopw [10, 19] (fun o i wr => ∃ k : Nat, k ≤ A.length ∧ i = .int .i64 k ∧ o = .int .i64 ((A.take k).foldl (Al.foundStep R tld S) 0 : Nat) ∧ Below (w.heap.size + 2) W wr) (fun _ i _ => A.length - (intOf i).toNat)
  case atStart => exact ⟨0, Nat.zero_le _, rfl, rfl, Below.refl _ _⟩
  case round =>
    obtain ⟨k, hk, rfl, rfl, hbel⟩ := hrel
    have hsz : w.heap.size + 2 ≤ wr.heap.size := Nat.le_trans hsz1 hbel.size
    have hbw := HBW.out.trans (hbel.mono (by omega))
    have hok := Al.fold_ok HR.out tld S (A.take k) 0 (by decide)
    by_cases hlt : k < A.length
    · have HFS := hid (found_succ (R := R) (tld := tld) (s := S) hlt)
      generalize (A.take k).foldl (Al.foundStep R tld S) 0 = L at *
      obtain ⟨c0, c1, c2, c3, c4⟩ := HC.out k hlt
      generalize A[k] = a at *
      obtain ⟨ak, ax, ay, ao, af⟩ := a
      have d0 := cell_below hbw c0 hg
      have d1 := cell_below hbw c1 hg
      have d2 := cell_below hbw c2 hg
      have d3 := cell_below hbw c3 hg
      have d4 := cell_below hbw c4 hg
      simp only at d0 d1 d2 d3 d4
      have hSr : wr.heap[w.heap.size + 1]? = some (.cells (stA (sk, sx, sy, so, sf)) 93 (0, 0)) := by rw [hbel.block _ (by omega)]; exact HSB.out
      obtain ⟨m0, m1, m2, m3, m4⟩ := st_cells hSr
      have hTr : wr.heap[w.heap.size]? = some (.cells (tabA R) 75 (0, 0)) := by rw [hbel.block _ (by omega)]; exact HT.out
      obtain ⟨t0, t1, t2, t3, t4, t5, t6, t7, t8, t9, t10, t11⟩ := tab12 hTr
      have hq1 : w.heap.size < wr.heap.size := by omega
      have hq2 : w.heap.size + 1 < wr.heap.size := by omega
      have HBEL := hid hbel
      clear c0 c1 c2 c3 c4 hSr hTr hbw hbel
      by_cases k3 : ak = 3
      · subst k3
        by_cases hfe : af = sf
        · subst hfe
          have ho := or_i64 hok (Al.rowAt_ok HR.out ay.toNat)
          have by1 : ay.toNat ≤ 255 := by have := ay.toNat_lt; omega
          have by2 : sy.toNat ≤ 255 := by have := sy.toNat_lt; omega
          have by3 : ax.toNat ≤ 255 := by have := ax.toNat_lt; omega
          cases tld with
          | false =>
            have HR2 : Hid (Al.foundStep R false S L (3, ax, ay, ao, af) = (L ||| Al.rowAt R ay.toNat)) := by rw [Hid, ← HSE.out]; simp [Al.foundStep]
            go_wp2_with (go_at_call 38; refine (HOF.out _ (by assumption) _).mono ?_; rintro e w' ⟨rfl, rfl⟩)
            go_roundw
            case rel => exact ⟨k + 1, by omega, by go_num, by rw [HFS.out, HR2.out], (HBEL.out.alloc hsz _).alloc (by simp; omega) _⟩
            case measure => simp [intOf]; omega
          | true =>
            have HR2 : Hid (Al.foundStep R true S L (3, ax, ay, ao, af) = if Al.meetR R sy.toNat ax.toNat = true then (L ||| Al.rowAt R ay.toNat) else L) := by rw [Hid, ← HSE.out]; simp [Al.foundStep]
            go_wp2_with fail
            have hnew := heap_alloc_new wr (.cells (stA (3, ax, ay, ao, af)) 93)
            have hbN := HBEL.out.alloc hsz (.cells (stA (3, ax, ay, ao, af)) 93)
            simp only [stA] at hnew hbN
            generalize wr.alloc (.cells #[.int .i64 ↑(3 : Nat), .int .u8 ↑ax.toNat, .int .u8 ↑ay.toNat, .int .u8 ↑ao.toNat, .int .u8 ↑af.toNat] 93) = W1 at *
            refine (HME.out _ _ (by assumption) (by assumption) _).mono ?_
            rintro e w2 ⟨rfl, hb2⟩
            have hb3 := hbN.trans (hb2.mono (Nat.le_trans hsz (Nat.le_of_lt (lt_of_block hnew))))
            have hs3 : w.heap.size + 2 ≤ w2.heap.size := Nat.le_trans hsz1 hb3.size
            have hTr : w2.heap[w.heap.size]? = some (.cells (tabA R) 75 (0, 0)) := by rw [hb3.block _ (by omega)]; exact HT.out
            have y2 : w2.cell? ⟨wr.heap.size, 2, none⟩ = some (.int .u8 ↑ay.toNat) := cell_below hb2 (block_cell (j := 2) hnew) (lt_of_block hnew)
            clear t0 t1 t2 t3 t4 t5 t6 t7 t8 t9 t10 t11 d0 d1 d2 d3 d4 m0 m1 m2 m3 m4
            obtain ⟨t0, t1, t2, t3, t4, t5, t6, t7, t8, t9, t10, t11⟩ := tab12 hTr
            have HB3 := hid hb3
            clear hTr hb3 hb2 hnew hbN hq1 hq2
            cases hme : Al.meetR R sy.toNat ax.toNat with
            | true =>
              rw [if_pos hme] at HR2
              clear hme
              go_wp2_with (go_at_call 38; refine (HOF.out _ (by assumption) _).mono ?_; rintro e w' ⟨rfl, rfl⟩)
              go_roundw
              case rel => exact ⟨k + 1, by omega, by go_num, by rw [HFS.out, HR2.out], HB3.out.alloc hs3 _⟩
              case measure => simp [intOf]; omega
            | false =>
              rw [if_neg (by rw [hme]; simp)] at HR2
              clear hme
              go_wp2_with fail
              go_roundw
              case rel => exact ⟨k + 1, by omega, by go_num, by rw [HFS.out, HR2.out], HB3.out⟩
              case measure => simp [intOf]; omega
        · have HR2 : Hid (Al.foundStep R tld S L (3, ax, ay, ao, af) = L) := by rw [Hid, ← HSE.out]; simp [Al.foundStep, hfe]
          have hne : ((af.toNat : Int) != (sf.toNat : Int)) = true := by rw [bne_iff_ne]; exact fun h => hfe (UInt8.toNat_inj.1 (by omega))
          clear hfe
          go_wp2_with fail
          go_roundw
          case rel => exact ⟨k + 1, by omega, by go_num, by rw [HFS.out, HR2.out], HBEL.out.alloc hsz _⟩
          case measure => simp [intOf]; omega
      · have HR2 : Hid (Al.foundStep R tld S L (ak, ax, ay, ao, af) = L) := by simp [Hid, Al.foundStep, k3]
        have hne : ((ak : Int) != 3) = true := by rw [bne_iff_ne]; omega
        clear k3
        go_wp2_with fail
        go_roundw
        case rel => exact ⟨k + 1, by omega, by go_num, by rw [HFS.out, HR2.out], HBEL.out.alloc hsz _⟩
        case measure => simp [intOf]; omega
    · rw [List.take_of_length_le (by omega)] at hok ⊢
      rw [← HFR.out]
      go_wp2
      go_ret
      exact ⟨rfl, hbw⟩
end Go.Proofs.Ytmjlcajcobbcgab

namespace Go.Proofs.Ytmjlcajcobbcgab
open Go.RowKit

set_option maxRecDepth 100000 in
set_option maxHeartbeats 1000000 in
theorem found_nil (R : Al.Rw) (s : Al.St) (f : List UInt8) (w : World) (hf : f.length ≤ 9223372036854775807) :
    Calls Try.prog 88 #[.agg (tabA R), .agg (stA s), .slice none 0 0, .string (bs f)] w fun e w' => e = .returned (.int .i64 0) ∧ Below w.heap.size w w' := by
  have HTA := hid (fun wx => toldApart_any f s.2.2.2.2 wx hf)
  generalize Al.told f s.2.2.2.2 = tld at *
  obtain ⟨sk, sx, sy, so, sf⟩ := s
  simp only [stA, tabA] at HTA ⊢
  go_enter Try.func88, Try.ntmps88
  go_wp2_with fail
  refine (HTA.out _).mono ?_
  rintro e w' ⟨rfl, rfl⟩
  obtain ⟨hT, hSb, hbw, hsz1⟩ := two_boxes w R (sk, sx, sy, so, sf)
  simp only [stA, tabA] at hbw
  generalize (w.alloc (Obj.cells #[.int .i64 ↑(R 0), .int .i64 ↑(R 1), .int .i64 ↑(R 2), .int .i64 ↑(R 3), .int .i64 ↑(R 4), .int .i64 ↑(R 5), .int .i64 ↑(R 6), .int .i64 ↑(R 7), .int .i64 ↑(R 8), .int .i64 ↑(R 9), .int .i64 ↑(R 10), .int .i64 ↑(R 11)] 75)).alloc (Obj.cells #[.int .i64 ↑sk, .int .u8 ↑sx.toNat, .int .u8 ↑sy.toNat, .int .u8 ↑so.toNat, .int .u8 ↑sf.toNat] 93) = W at *
  clear hT hSb
  go_wp2_with fail
  refine wp_loop_rounds 1 ?_
  rw [rounds_succ]
  go_wp2_with fail
  go_ret
  exact ⟨rfl, hbw⟩
theorem found_any (A : List Al.St) (R : Al.Rw) (s : Al.St) (f : List UInt8) (v : Value) (w : World) (hr : RdA w v A) (hs : A.length ≤ 100000) (hR : Al.OkR R) (hf : f.length ≤ 9223372036854775807) :
    Calls Try.prog 88 #[.agg (tabA R), .agg (stA s), v, .string (bs f)] w fun e w' => e = .returned (.int .i64 (Al.foundR A R (Al.told f s.2.2.2.2) s : Nat)) ∧ Below w.heap.size w w' := by
  rcases hr.shape with ⟨rfl, rfl⟩ | ⟨g, cap, rfl, hl, hm, hg, hc⟩
  · exact found_nil R s f w hf
  · exact found_some A R s f g cap w hg hc hs hR hf

set_option maxRecDepth 100000 in
set_option maxHeartbeats 2000000 in
theorem asked_any (A : List Al.St) (R : Al.Rw) (s : Al.St) (f : List UInt8) (v : Value) (w : World) (hr : RdA w v A) (hs : A.length ≤ 100000) (hR : Al.OkR R) (hf : f.length ≤ 9223372036854775807) :
    Calls Try.prog 68 #[.agg (tabA R), .agg (stA s), v, .string (bs f)] w fun e w' => e = .returned (.int .i64 (Al.askedR A f R s : Nat)) ∧ Below w.heap.size w w' := by
  have HOF := hid (fun (q : Nat) (hq : q ≤ 255) wx => of_any R q wx hq)
  have HON := hid (fun (q : Nat) (hq : q ≤ 255) wx => only_any q wx hq)
  have HFO := hid (fun wx (h : RdA wx v A) => found_any A R s f v wx h hs hR hf)
  have HR := hid hr
  have HAS : Hid (Al.askedR A f R s = if s.1 = 0 then Al.onlyR s.2.2.2.1.toNat else if s.1 = 1 then Al.rowAt R s.2.2.1.toNat else if s.1 = 2 then Al.foundR A R (Al.told f s.2.2.2.2) s else 0) := rfl
  generalize Al.askedR A f R s = AS at *
  generalize Al.foundR A R (Al.told f s.2.2.2.2) s = FR at *
  clear hr hR hf
  obtain ⟨sk, sx, sy, so, sf⟩ := s
  have by1 : sy.toNat ≤ 255 := by have := sy.toNat_lt; omega
  have by2 : so.toNat ≤ 255 := by have := so.toNat_lt; omega
  obtain ⟨hT, hSb, hbw, hsz1⟩ := two_boxes w R (sk, sx, sy, so, sf)
  have hr2 := HR.out.below hbw
  simp only [stA, tabA] at HOF HFO hbw hr2 hsz1 ⊢
  have HBW := hid hbw
  have HR2 := hid hr2
  clear hT hSb hbw hr2 HR
  by_cases h0 : sk = 0
  · subst h0
    rw [if_pos rfl] at HAS
    go_enter Try.func68, Try.ntmps68
    go_wp2_with (go_at_call 70; refine (HON.out _ (by assumption) _).mono ?_; rintro e w' ⟨rfl, rfl⟩)
    go_ret
    exact ⟨by rw [HAS.out]; rfl, HBW.out⟩
  by_cases h1 : sk = 1
  · subst h1
    rw [if_neg (by simp), if_pos rfl] at HAS
    go_enter Try.func68, Try.ntmps68
    go_wp2_with (go_at_call 38; refine (HOF.out _ (by assumption) _).mono ?_; rintro e w' ⟨rfl, rfl⟩)
    go_ret
    exact ⟨by rw [HAS.out]; rfl, HBW.out.alloc (Nat.le_trans (by omega) hsz1) _⟩
  by_cases h2 : sk = 2
  · subst h2
    rw [if_neg (by simp), if_neg (by simp), if_pos rfl] at HAS
    go_enter Try.func68, Try.ntmps68
    go_wp2_with fail
    refine (HFO.out _ HR2.out).mono ?_
    rintro e w2 ⟨rfl, hb2⟩
    have HB2 := hid (HBW.out.trans (hb2.mono (Nat.le_trans (by omega) hsz1)))
    clear hb2
    go_wp2_with fail
    go_ret
    exact ⟨by rw [HAS.out]; rfl, HB2.out⟩
  · rw [if_neg h0, if_neg h1, if_neg h2] at HAS
    go_enter Try.func68, Try.ntmps68
    go_wp2_with fail
    go_ret
    exact ⟨by rw [HAS.out]; rfl, HBW.out⟩
end Go.Proofs.Ytmjlcajcobbcgab
