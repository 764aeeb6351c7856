import Derived.Test.YtljafkdaljkanaaProgF
import Derived.Test.YtljafkdaljkanaaRefH
namespace Go.Proofs.Ytljafkdaljkanaa
open Go.RowKit

/-- The statement that readSingle answers. -/
def oneSt (l : List UInt8) : Al.St := if (Al.oneP l).1 = 0 then theSt l else (0, 0, 0, 0, 0)

theorem stored_size (w : World) (b k : Nat) (x y o f : UInt8) : (stored w b k x y o f).heap.size = w.heap.size := by simp [stored, World.setCell]
theorem stored_then {w0 w : World} {B b : Nat} {S : Al.St} {k : Nat} {x y o f : UInt8} (h : w.heap[b]? = some (.cells (stA S) 72 (0, 0))) (hb : B ≤ b) (hbel : Below B w0 w) (C : Obj) :
    ((stored w b k x y o f).alloc C).heap[b]? = some (.cells (stA (k, x, y, o, f)) 72 (0, 0)) ∧ Below B w0 ((stored w b k x y o f).alloc C) := by
  have hlt := lt_of_block h
  refine ⟨?_, (stored_below hbel hb).alloc (by rw [stored_size]; omega) C⟩
  rw [Below.heap_alloc _ _ _ (by rw [stored_size]; exact hlt)]
  exact stored_block h

set_option maxRecDepth 100000 in
set_option maxHeartbeats 400000 in
theorem readSingle_any (s : ByteArray) (w : World) (hs : s.size ≤ maxLen) :
    Calls Try.prog 60 #[.string s] w fun e w' => e = .returned (.tuple #[.agg (stA (oneSt s.data.toList)), .int .i64 ((Al.oneP s.data.toList).1 : Nat), .int .i64 ((Al.oneP s.data.toList).2 : Nat)]) ∧ Below w.heap.size w w' := by
  unfold maxLen at hs
  have HSZ : Hid (s.data.toList.length = s.size) := rfl
  have hzb : (w.alloc (.cells (stA (0, 0, 0, 0, 0)) 72)).heap[w.heap.size]? = some (.cells (stA (0, 0, 0, 0, 0)) 72 (0, 0)) := heap_alloc_new w _
  have HZB := hid hzb
  clear hzb
  by_cases h1 : 200 < s.size
  · have HF : Hid (Al.oneP s.data.toList = (1, 0)) := by rw [Hid, Al.oneP, if_pos (by rw [HSZ.out]; omega)]
    have HS : Hid (oneSt s.data.toList = (0, 0, 0, 0, 0)) := by rw [Hid, oneSt, HF.out, if_neg (by simp)]
    go_enter Try.func60, Try.ntmps60
    go_wp2
    exact bodyPost_ret (v := .tuple #[.agg (stA (0, 0, 0, 0, 0)), .int .i64 1, .int .i64 0]) (by simp [results, Try.results60, go_sem, stA]) rfl ⟨by rw [HF.out, HS.out]; rfl, (Below.refl _ _).alloc (Nat.le_refl _) _⟩
  · have hsz : s.size ≤ 1000000 := by omega
    obtain ⟨⟨j, ok⟩, hr⟩ : ∃ x, Al.refStmt s.data.toList 0 = x := ⟨_, rfl⟩
    have HRS := hid (fun wx => readStatement_any s 0 wx (Nat.zero_le _) hsz)
    have hle := Al.refStmt_le s.data.toList 0
    have HRR := hid (Al.read_same s.data.toList 0)
    rw [hr] at HRS hle HRR
    rw [List.drop_zero] at HRS HRR
    simp only at hle
    generalize hRD : rdSt s.data.toList = RD at *
    obtain ⟨rk, rx, ry, ro, rf⟩ := RD
    simp only [stA] at HRS
    cases ok with
    | false =>
      have HF : Hid (Al.oneP s.data.toList = (2, j)) := by rw [Hid, Al.oneP, if_neg (by rw [HSZ.out]; omega), hr, if_pos (.inl rfl)]
      have HS : Hid (oneSt s.data.toList = (0, 0, 0, 0, 0)) := by rw [Hid, oneSt, HF.out, if_neg (by simp)]
      clear hr hRD
      go_enter Try.func60, Try.ntmps60
      go_wp2_with fail
      refine (HRS.out _).mono ?_
      rintro e w1 ⟨rfl, hbel1⟩
      have hb1 : w1.heap[w.heap.size]? = some (.cells (stA (0, 0, 0, 0, 0)) 72 (0, 0)) := by rw [hbel1.block _ (by rw [World.size_alloc]; omega)]; exact HZB.out
      have hq1 : w.heap.size < w1.heap.size := by have := hbel1.size; rw [World.size_alloc] at this; omega
      have hbw : Below w.heap.size w w1 := ((Below.refl _ _).alloc (Nat.le_refl _) _).trans (hbel1.mono (by rw [World.size_alloc]; omega))
      obtain ⟨d0, d1, d2, d3, d4⟩ := zero_cells hb1
      obtain ⟨f0, f1, f2, f3, f4⟩ := st_free hb1
      have HB := hid (fun C => stored_then (k := 0) (x := 0) (y := 0) (o := 0) (f := 0) hb1 (Nat.le_refl _) hbw C)
      clear hb1 hbel1 hbw
      go_wp2_with fail
      rw [stored_zero]
      have HBC := HB.out (Obj.cells #[.int .i64 ↑rk, .int .u8 ↑rx.toNat, .int .u8 ↑ry.toNat, .int .u8 ↑ro.toNat, .int .u8 ↑rf.toNat] 72)
      clear d0 d1 d2 d3 d4 f0 f1 f2 f3 f4 HB
      generalize (stored w1 w.heap.size 0 0 0 0 0).alloc (Obj.cells #[.int .i64 ↑rk, .int .u8 ↑rx.toNat, .int .u8 ↑ry.toNat, .int .u8 ↑ro.toNat, .int .u8 ↑rf.toNat] 72) = W at *
      obtain ⟨hW, hbelW⟩ := HBC
      obtain ⟨c0, c1, c2, c3, c4⟩ := zero_cells hW
      exact bodyPost_ret (v := .tuple #[.agg (stA (0, 0, 0, 0, 0)), .int .i64 2, .int .i64 (j : Nat)]) (by simp [results, Try.results60, go_sem, stA, c0, c1, c2, c3, c4]) rfl ⟨by rw [HF.out, HS.out]; rfl, hbelW⟩
    | true =>
      by_cases h2 : j < s.size
      · have HF : Hid (Al.oneP s.data.toList = (2, j)) := by rw [Hid, Al.oneP, if_neg (by rw [HSZ.out]; omega), hr, if_pos (.inr (by rw [HSZ.out]; exact h2))]
        have HS : Hid (oneSt s.data.toList = (0, 0, 0, 0, 0)) := by rw [Hid, oneSt, HF.out, if_neg (by simp)]
        clear hr hRD
        go_enter Try.func60, Try.ntmps60
        go_wp2_with fail
        refine (HRS.out _).mono ?_
        rintro e w1 ⟨rfl, hbel1⟩
        have hb1 : w1.heap[w.heap.size]? = some (.cells (stA (0, 0, 0, 0, 0)) 72 (0, 0)) := by rw [hbel1.block _ (by rw [World.size_alloc]; omega)]; exact HZB.out
        have hq1 : w.heap.size < w1.heap.size := by have := hbel1.size; rw [World.size_alloc] at this; omega
        have hbw : Below w.heap.size w w1 := ((Below.refl _ _).alloc (Nat.le_refl _) _).trans (hbel1.mono (by rw [World.size_alloc]; omega))
        obtain ⟨d0, d1, d2, d3, d4⟩ := zero_cells hb1
        obtain ⟨f0, f1, f2, f3, f4⟩ := st_free hb1
        have HB := hid (fun C => stored_then (k := 0) (x := 0) (y := 0) (o := 0) (f := 0) hb1 (Nat.le_refl _) hbw C)
        clear hb1 hbel1 hbw
        go_wp2_with fail
        rw [stored_zero]
        have HBC := HB.out (Obj.cells #[.int .i64 ↑rk, .int .u8 ↑rx.toNat, .int .u8 ↑ry.toNat, .int .u8 ↑ro.toNat, .int .u8 ↑rf.toNat] 72)
        clear d0 d1 d2 d3 d4 f0 f1 f2 f3 f4 HB
        generalize (stored w1 w.heap.size 0 0 0 0 0).alloc (Obj.cells #[.int .i64 ↑rk, .int .u8 ↑rx.toNat, .int .u8 ↑ry.toNat, .int .u8 ↑ro.toNat, .int .u8 ↑rf.toNat] 72) = W at *
        obtain ⟨hW, hbelW⟩ := HBC
        obtain ⟨c0, c1, c2, c3, c4⟩ := zero_cells hW
        exact bodyPost_ret (v := .tuple #[.agg (stA (0, 0, 0, 0, 0)), .int .i64 2, .int .i64 (j : Nat)]) (by simp [results, Try.results60, go_sem, stA, c0, c1, c2, c3, c4]) rfl ⟨by rw [HF.out, HS.out]; rfl, hbelW⟩

      · have HF : Hid (Al.oneP s.data.toList = (0, 0)) := by rw [Hid, Al.oneP, if_neg (by rw [HSZ.out]; omega), hr, if_neg (by rw [HSZ.out]; simp; omega)]
        have hk : Al.kindOf s.data.toList < 4 := (Al.one_yes (by rw [HF.out])).1
        have HS : Hid (oneSt s.data.toList = (rk, rx, ry, ro, rf)) := by rw [Hid, oneSt, HF.out, if_pos rfl, ← hRD, rdSt, if_pos hk]; rfl
        clear hr hRD hk
        go_enter Try.func60, Try.ntmps60
        go_wp2_with fail
        refine (HRS.out _).mono ?_
        rintro e w1 ⟨rfl, hbel1⟩
        have hb1 : w1.heap[w.heap.size]? = some (.cells (stA (0, 0, 0, 0, 0)) 72 (0, 0)) := by rw [hbel1.block _ (by rw [World.size_alloc]; omega)]; exact HZB.out
        have hq1 : w.heap.size < w1.heap.size := by have := hbel1.size; rw [World.size_alloc] at this; omega
        have hbw : Below w.heap.size w w1 := ((Below.refl _ _).alloc (Nat.le_refl _) _).trans (hbel1.mono (by rw [World.size_alloc]; omega))
        obtain ⟨d0, d1, d2, d3, d4⟩ := zero_cells hb1
        obtain ⟨f0, f1, f2, f3, f4⟩ := st_free hb1
        have HB := hid (fun C => stored_then (k := rk) (x := rx) (y := ry) (o := ro) (f := rf) hb1 (Nat.le_refl _) hbw C)
        clear hb1 hbel1 hbw
        go_wp2_with fail
        rw [stored_eq]
        have HBC := HB.out (Obj.cells #[.int .i64 ↑rk, .int .u8 ↑rx.toNat, .int .u8 ↑ry.toNat, .int .u8 ↑ro.toNat, .int .u8 ↑rf.toNat] 72)
        clear d0 d1 d2 d3 d4 f0 f1 f2 f3 f4 HB
        generalize (stored w1 w.heap.size rk rx ry ro rf).alloc (Obj.cells #[.int .i64 ↑rk, .int .u8 ↑rx.toNat, .int .u8 ↑ry.toNat, .int .u8 ↑ro.toNat, .int .u8 ↑rf.toNat] 72) = W at *
        obtain ⟨hW, hbelW⟩ := HBC
        obtain ⟨c0, c1, c2, c3, c4⟩ := st_cells hW
        exact bodyPost_ret (v := .tuple #[.agg (stA (rk, rx, ry, ro, rf)), .int .i64 0, .int .i64 0]) (by simp [results, Try.results60, go_sem, stA, c0, c1, c2, c3, c4]) rfl ⟨by rw [HF.out, HS.out]; rfl, hbelW⟩

end Go.Proofs.Ytljafkdaljkanaa
