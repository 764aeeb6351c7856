import Derived.Test.YtljafkdaljkanaaProgC
namespace Go.Proofs.Ytljafkdaljkanaa
open Go.RowKit

/-- What the program's reader answers. -/
def rdSt (u : List UInt8) : Al.St := if Al.kindOf u < 4 then Al.mkSt (Al.kindOf u) u else (0, 0, 0, 0, 0)

theorem kindOf_eq (u : List UInt8) : Al.kindOf u = if Al.fitN (Al.shp 0) u = Al.shpLen 0 then 0 else if Al.fitN (Al.shp 1) u = Al.shpLen 1 then 1 else if Al.fitN (Al.shp 2) u = Al.shpLen 2 then 2 else if Al.fitN (Al.shp 3) u = Al.shpLen 3 then 3 else 4 := rfl
theorem kind_found {u : List UInt8} {k : Nat} (hk : k < 4) (hno : ∀ j, j < k → Al.fitN (Al.shp j) u ≠ Al.shpLen j) (hyes : Al.fitN (Al.shp k) u = Al.shpLen k) : Al.kindOf u = k := by
  rw [kindOf_eq]
  match k, hk with
  | 0, _ => rw [if_pos hyes]
  | 1, _ => rw [if_neg (hno 0 (by omega)), if_pos hyes]
  | 2, _ => rw [if_neg (hno 0 (by omega)), if_neg (hno 1 (by omega)), if_pos hyes]
  | 3, _ => rw [if_neg (hno 0 (by omega)), if_neg (hno 1 (by omega)), if_neg (hno 2 (by omega)), if_pos hyes]
theorem kind_none {u : List UInt8} (hno : ∀ j, j < 4 → Al.fitN (Al.shp j) u ≠ Al.shpLen j) : Al.kindOf u = 4 := by
  rw [kindOf_eq, if_neg (hno 0 (by omega)), if_neg (hno 1 (by omega)), if_neg (hno 2 (by omega)), if_neg (hno 3 (by omega))]

theorem zero_cells {w : World} {b : Nat} (hb0 : w.heap[b]? = some (.cells (stA (0, 0, 0, 0, 0)) 72 (0, 0))) :
    w.cell? ⟨b, 0, none⟩ = some (.int .i64 0) ∧ w.cell? ⟨b, 1, none⟩ = some (.int .u8 0) ∧ w.cell? ⟨b, 2, none⟩ = some (.int .u8 0) ∧ w.cell? ⟨b, 3, none⟩ = some (.int .u8 0) ∧ w.cell? ⟨b, 4, none⟩ = some (.int .u8 0) :=
  ⟨block_cell (j := 0) hb0, block_cell (j := 1) hb0, block_cell (j := 2) hb0, block_cell (j := 3) hb0, block_cell (j := 4) hb0⟩
theorem st_cells {w : World} {b : Nat} {k : Nat} {x y o f : UInt8} (hb0 : w.heap[b]? = some (.cells (stA (k, x, y, o, f)) 72 (0, 0))) :
    w.cell? ⟨b, 0, none⟩ = some (.int .i64 (k : Nat)) ∧ w.cell? ⟨b, 1, none⟩ = some (.int .u8 (x.toNat : Nat)) ∧ w.cell? ⟨b, 2, none⟩ = some (.int .u8 (y.toNat : Nat)) ∧ w.cell? ⟨b, 3, none⟩ = some (.int .u8 (o.toNat : Nat)) ∧ w.cell? ⟨b, 4, none⟩ = some (.int .u8 (f.toNat : Nat)) :=
  ⟨block_cell (j := 0) hb0, block_cell (j := 1) hb0, block_cell (j := 2) hb0, block_cell (j := 3) hb0, block_cell (j := 4) hb0⟩
theorem st_free {w : World} {b : Nat} {S : Array Value} (hb0 : w.heap[b]? = some (.cells S 72 (0, 0))) :
    w.frozen? ⟨b, 0, none⟩ = false ∧ w.frozen? ⟨b, 1, none⟩ = false ∧ w.frozen? ⟨b, 2, none⟩ = false ∧ w.frozen? ⟨b, 3, none⟩ = false ∧ w.frozen? ⟨b, 4, none⟩ = false :=
  ⟨block_free (j := 0) hb0, block_free (j := 1) hb0, block_free (j := 2) hb0, block_free (j := 3) hb0, block_free (j := 4) hb0⟩
/-- The world behind the store of a statement into a block. -/
def stored (w : World) (b : Nat) (k : Nat) (x y o f : UInt8) : World :=
  ((((w.setCell ⟨b, 0, none⟩ (.int .i64 ↑k)).setCell ⟨b, 1, none⟩ (.int .u8 ↑x.toNat)).setCell ⟨b, 2, none⟩ (.int .u8 ↑y.toNat)).setCell ⟨b, 3, none⟩ (.int .u8 ↑o.toNat)).setCell ⟨b, 4, none⟩ (.int .u8 ↑f.toNat)
theorem stored_eq (w : World) (b : Nat) (k : Nat) (x y o f : UInt8) : ((((w.setCell ⟨b, 0, none⟩ (.int .i64 ↑k)).setCell ⟨b, 1, none⟩ (.int .u8 ↑x.toNat)).setCell ⟨b, 2, none⟩ (.int .u8 ↑y.toNat)).setCell ⟨b, 3, none⟩ (.int .u8 ↑o.toNat)).setCell ⟨b, 4, none⟩ (.int .u8 ↑f.toNat) = stored w b k x y o f := rfl
theorem stored_zero (w : World) (b : Nat) : ((((w.setCell ⟨b, 0, none⟩ (.int .i64 0)).setCell ⟨b, 1, none⟩ (.int .u8 0)).setCell ⟨b, 2, none⟩ (.int .u8 0)).setCell ⟨b, 3, none⟩ (.int .u8 0)).setCell ⟨b, 4, none⟩ (.int .u8 0) = stored w b 0 0 0 0 0 := rfl
theorem stored_block {w : World} {b : Nat} {S : Al.St} {k : Nat} {x y o f : UInt8} (h : w.heap[b]? = some (.cells (stA S) 72 (0, 0))) : (stored w b k x y o f).heap[b]? = some (.cells (stA (k, x, y, o, f)) 72 (0, 0)) :=
  block_setCell _ (block_setCell _ (block_setCell _ (block_setCell _ (block_setCell _ h))))
theorem stored_below {w0 w : World} {B b : Nat} {k : Nat} {x y o f : UInt8} (h : Below B w0 w) (hb : B ≤ b) : Below B w0 (stored w b k x y o f) :=
  ((((h.setCell hb _).setCell hb _).setCell hb _).setCell hb _).setCell hb _

set_option maxRecDepth 100000 in
set_option maxHeartbeats 2000000 in
theorem readStatement_any (s : ByteArray) (i : Nat) (w : World) (hi : i ≤ s.size) (hs : s.size ≤ 1000000) :
    Calls Try.prog 83 #[.string s, .int .i64 i] w fun e w' => e = .returned (.tuple #[.agg (stA (rdSt (s.data.toList.drop i))), .int .i64 ((Al.refStmt s.data.toList i).1 : Nat), .bool (Al.refStmt s.data.toList i).2]) ∧ Below w.heap.size w w' := by
  have HR := hid (Al.read_same s.data.toList i)
  have HFT := hid (fun k => fitting_any (bs (Al.shp k)) s i)
  have HFL := hid (fun kd => fill_any kd s i)
  have HU : Hid ((s.data.toList.drop i).length = s.size - i) := by rw [Hid, List.length_drop]; rfl
  generalize hu : s.data.toList.drop i = u at *
  go_enter Try.func83, Try.ntmps83
  go_wp2_with fail
  go_loopw [7, 8] (fun f kd wr => ∃ k : Nat, k ≤ 4 ∧ kd = .int .i64 k ∧ f = .int .i64 (Al.fur u k : Nat) ∧ (∀ j, j < k → Al.fitN (Al.shp j) u ≠ Al.shpLen j) ∧ wr.heap[w.heap.size]? = some (.cells (stA (0, 0, 0, 0, 0)) 72 (0, 0)) ∧ Below w.heap.size w wr) (fun _ kd _ => 4 - (intOf kd).toNat)
  case atStart => exact ⟨0, by omega, rfl, rfl, fun j hj => by omega, heap_alloc_new w _, (Below.refl _ _).alloc (Nat.le_refl _) _⟩
  case round =>
    obtain ⟨k, hk, rfl, rfl, hno, hb0, hbel⟩ := hrel
    have HNO := hid hno
    have hfl := Al.fur_le u k
    clear hno
    by_cases hlt : k < 4
    · have hq6 := Al.shpLen_ge k
      have HSL := hid (Al.shp_length k)
      have HFS : Hid (Al.fur u (k + 1) = if Al.fur u k < Al.fitN (Al.shp k) u then Al.fitN (Al.shp k) u else Al.fur u k) := rfl
      have hbsz : (bs (Al.shp k)).size = Al.shpLen k := Al.shp_length k
      have hfn := Al.fitN_le_right (Al.shp k) u
      rw [HU.out] at hfn
      obtain ⟨nn, hnn⟩ : ∃ nn, Al.fitN (Al.shp k) u = nn := ⟨_, rfl⟩
      rw [hnn] at hfn HFS
      have HN := hid hnn
      clear hnn
      obtain ⟨F, hF⟩ : ∃ F, Al.fur u k = F := ⟨_, rfl⟩
      rw [hF] at HFS hfl
      rw [hF]
      have HFF := hid hF
      clear hF
      go_wp2_with fail
      refine (shapeOf_any k _).mono ?_
      rintro e w1 ⟨rfl, rfl⟩
      go_wp2_with fail
      refine (HFT.out k _ (by rw [hbsz]; omega) (by omega)).mono ?_
      rintro e w2 ⟨rfl, n2, rfl⟩
      rw [bs_data, HN.out]
      by_cases heq : nn = Al.shpLen k
      · have HKF : Hid (Al.kindOf u = k) := kind_found hlt HNO.out (by rw [HN.out, heq])
        have HRD : Hid (rdSt u = Al.mkSt k u) := by rw [Hid, rdSt, HKF.out, if_pos hlt]
        have HPL : Hid (Al.refStmt s.data.toList i = (i + nn, true)) := by rw [Hid, HR.out, HKF.out, if_pos hlt, heq]
        have hte : ((nn : Int) == (Al.shpLen k : Int)) = true := by simp [heq]
        have hlen : i + Al.shpLen k ≤ s.size := by omega
        have hb2 : (w1.drewN n2).heap[w.heap.size]? = some (.cells (stA (0, 0, 0, 0, 0)) 72 (0, 0)) := hb0
        have hbel2 : Below w.heap.size w (w1.drewN n2) := ⟨hbel.os, hbel.tape, hbel.output, hbel.size, hbel.block⟩
        generalize w1.drewN n2 = wq at *
        have hsz := hbel2.size
        clear heq hb0 hbel
        go_wp2_with fail
        refine (HFL.out k _ (by omega) hlen).mono ?_
        rintro e w3 ⟨rfl, hbel3⟩
        generalize hS : Al.mkSt k u = S at *
        obtain ⟨kk, x, y, o, f⟩ := S
        have hlb : w.heap.size < wq.heap.size := (Array.getElem?_eq_some_iff.1 hb2).1
        have hb3 : w3.heap[w.heap.size]? = some (.cells (stA (0, 0, 0, 0, 0)) 72 (0, 0)) := by rw [hbel3.block _ hlb]; exact hb2
        obtain ⟨d0, d1, d2, d3, d4⟩ := zero_cells hb3
        obtain ⟨f0, f1, f2, f3, f4⟩ := st_free hb3
        have HB := hid (And.intro (stored_block (k := kk) (x := x) (y := y) (o := o) (f := f) hb3) (stored_below (k := kk) (x := x) (y := y) (o := o) (f := f) (hbel2.trans (hbel3.mono hsz)) (Nat.le_refl _)))
        clear hb3 hbel3 hbel2 hb2 hS
        simp only [stA]
        go_wp2_with fail
        clear d0 d1 d2 d3 d4 f0 f1 f2 f3 f4
        rw [stored_eq]
        generalize stored w3 w.heap.size kk x y o f = W at *
        obtain ⟨hW, hbelW⟩ := HB.out
        obtain ⟨c0, c1, c2, c3, c4⟩ := st_cells hW
        exact bodyPost_ret (v := .tuple #[.agg (stA (kk, x, y, o, f)), .int .i64 (i + nn : Nat), .bool true]) (by simp [results, Try.results83, go_sem, stA, c0, c1, c2, c3, c4]) rfl ⟨by rw [HRD.out, HPL.out], hbelW⟩
      · have hte : ((nn : Int) == (Al.shpLen k : Int)) = false := beq_eq_false_iff_ne.2 (by omega)
        have HNO2 : Hid (∀ j, j < k + 1 → Al.fitN (Al.shp j) u ≠ Al.shpLen j) := fun j hj => by
          rcases Nat.lt_succ_iff_lt_or_eq.1 hj with h | rfl
          · exact HNO.out j h
          · rw [HN.out]; exact heq
        have hb2 : (w1.drewN n2).heap[w.heap.size]? = some (.cells (stA (0, 0, 0, 0, 0)) 72 (0, 0)) := hb0
        have hbel2 : Below w.heap.size w (w1.drewN n2) := ⟨hbel.os, hbel.tape, hbel.output, hbel.size, hbel.block⟩
        generalize w1.drewN n2 = wq at *
        clear heq hb0 hbel
        by_cases hgt : F < nn
        · go_wp2_with fail
          go_roundw
          case rel => exact ⟨k + 1, by omega, by go_num, by rw [HFS.out, if_pos hgt], HNO2.out, hb2, hbel2⟩
          case measure => simp [intOf]; omega
        · go_wp2_with fail
          go_roundw
          case rel => exact ⟨k + 1, by omega, by go_num, by rw [HFS.out, if_neg hgt], HNO2.out, hb2, hbel2⟩
          case measure => simp [intOf]; omega
    · have hk4 : k = 4 := by omega
      subst hk4
      have HKF : Hid (Al.kindOf u = 4) := kind_none HNO.out
      have HRD : Hid (rdSt u = (0, 0, 0, 0, 0)) := by rw [Hid, rdSt, HKF.out, if_neg (by omega)]
      have HPL : Hid (Al.refStmt s.data.toList i = (i + Al.fur u 4, false)) := by rw [Hid, HR.out, HKF.out, if_neg (by omega)]
      generalize Al.fur u 4 = F at *
      obtain ⟨d0, d1, d2, d3, d4⟩ := zero_cells hb0
      obtain ⟨f0, f1, f2, f3, f4⟩ := st_free hb0
      have HB := hid (And.intro (stored_block (k := 0) (x := 0) (y := 0) (o := 0) (f := 0) hb0) (stored_below (k := 0) (x := 0) (y := 0) (o := 0) (f := 0) hbel (Nat.le_refl _)))
      clear hb0 hbel
      go_wp2_with fail
      clear d0 d1 d2 d3 d4 f0 f1 f2 f3 f4
      rw [stored_zero]
      generalize stored wr w.heap.size 0 0 0 0 0 = W at *
      obtain ⟨hW, hbelW⟩ := HB.out
      obtain ⟨c0, c1, c2, c3, c4⟩ := zero_cells hW
      exact bodyPost_ret (v := .tuple #[.agg (stA (0, 0, 0, 0, 0)), .int .i64 (i + F : Nat), .bool false]) (by simp [results, Try.results83, go_sem, stA, c0, c1, c2, c3, c4]) rfl ⟨by rw [HRD.out, HPL.out], hbelW⟩
end Go.Proofs.Ytljafkdaljkanaa
