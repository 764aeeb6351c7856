import Derived.Test.YtmjlcajcobbcgabXk
import Derived.Test.YtmjlcajcobbcgabXi
import Derived.Test.YtmjlcajcobbcgabXw
import Derived.Test.YtmjlcajcobbcgabXm
import Derived.Deep.RegionWith
namespace Go.Proofs.Ytmjlcajcobbcgab
open Go.RowKit

/-- The cells of a step. -/
def spA (s : Al.Sp) : Array Value := #[.int .i64 (s.1.1 : Nat), .int .u8 (s.1.2.1.toNat : Nat), .int .u8 (s.1.2.2.1.toNat : Nat), .int .u8 (s.1.2.2.2.1.toNat : Nat), .int .u8 (s.1.2.2.2.2.toNat : Nat), .int .u8 (s.2.1.toNat : Nat), .int .i64 (s.2.2.1.1 : Nat), .int .u8 (s.2.2.1.2.1.toNat : Nat), .int .u8 (s.2.2.1.2.2.1.toNat : Nat), .int .u8 (s.2.2.1.2.2.2.1.toNat : Nat), .int .u8 (s.2.2.1.2.2.2.2.toNat : Nat), .int .u8 (s.2.2.2.toNat : Nat)]
theorem sp12 {w : World} {b : Nat} {k x y o f d k2 x2 y2 o2 f2 p} (h : w.heap[b]? = some (.cells (spA ((k, x, y, o, f), d, (k2, x2, y2, o2, f2), p)) 124 (0, 0))) : w.cell? ⟨b, 0, none⟩ = some (.int .i64 (k : Nat)) ∧ w.cell? ⟨b, 1, none⟩ = some (.int .u8 (x.toNat : Nat)) ∧ w.cell? ⟨b, 2, none⟩ = some (.int .u8 (y.toNat : Nat)) ∧ w.cell? ⟨b, 3, none⟩ = some (.int .u8 (o.toNat : Nat)) ∧ w.cell? ⟨b, 4, none⟩ = some (.int .u8 (f.toNat : Nat)) ∧ w.cell? ⟨b, 5, none⟩ = some (.int .u8 (d.toNat : Nat)) ∧
    w.cell? ⟨b, 6, none⟩ = some (.int .i64 (k2 : Nat)) ∧ w.cell? ⟨b, 7, none⟩ = some (.int .u8 (x2.toNat : Nat)) ∧ w.cell? ⟨b, 8, none⟩ = some (.int .u8 (y2.toNat : Nat)) ∧ w.cell? ⟨b, 9, none⟩ = some (.int .u8 (o2.toNat : Nat)) ∧ w.cell? ⟨b, 10, none⟩ = some (.int .u8 (f2.toNat : Nat)) ∧ w.cell? ⟨b, 11, none⟩ = some (.int .u8 (p.toNat : Nat)) :=
  ⟨block_cell (j := 0) h, block_cell (j := 1) h, block_cell (j := 2) h, block_cell (j := 3) h, block_cell (j := 4) h, block_cell (j := 5) h, block_cell (j := 6) h, block_cell (j := 7) h, block_cell (j := 8) h, block_cell (j := 9) h, block_cell (j := 10) h, block_cell (j := 11) h⟩

theorem own_snoc {w : World} {B : Nat} {v : Value} {L : List UInt8} {p : UInt8} (h : w.ownsRow B 5 1 v (L.length + 1) (L.map bv ++ [.int .u8 (p.toNat : Nat)])) : w.ownsRow B 5 1 v (L ++ [p]).length ((L ++ [p]).map bv) := by
  rw [List.map_append, List.length_append]; exact h

set_option maxRecDepth 100000 in
set_option maxHeartbeats 2000000 in
theorem spText_any (s : Al.Sp) (w : World) : Calls Try.prog 90 #[.agg (spA s)] w fun e w' => e = .returned (.string (bs (Al.txtS s))) ∧ Below w.heap.size w w' := by
  obtain ⟨i0, hi, hz0, hz1, hz2⟩ := info_parts Try.info5
  obtain ⟨b, d, st, p⟩ := s
  have HT1 := hid (text_any b)
  have HT2 := hid (text_any st)
  have HTS : Hid (Al.txtS (b, d, st, p) = b.2.1 :: d :: 60 :: (Al.txt b ++ (if b.1 = 2 then Al.txt st ++ [p] else []))) := rfl
  have hl1 := txt_le b
  have hl2 := txt_le st
  obtain ⟨X, hX⟩ : ∃ X, Al.txt b = X := ⟨_, rfl⟩
  obtain ⟨Y, hY⟩ : ∃ Y, Al.txt st = Y := ⟨_, rfl⟩
  rw [hX] at HT1 HTS hl1
  rw [hY] at HT2 HTS hl2
  clear hX hY
  have hsX : (bs X).size = X.length := rfl
  have hsY : (bs Y).size = Y.length := rfl
  obtain ⟨k, x, y, o, f⟩ := b
  obtain ⟨k2, x2, y2, o2, f2⟩ := st
  simp only [stA, spA] at HT1 HT2 HTS ⊢
  go_enter Try.func90, Try.ntmps90
  go_wp2_with fail
  refine (HT1.out _).mono ?_
  rintro e w1 ⟨rfl, hb1⟩
  have hnew := heap_alloc_new w (.cells (spA ((k, x, y, o, f), d, (k2, x2, y2, o2, f2), p)) 124)
  have hbw := (Below.refl _ w).alloc (Nat.le_refl _) (.cells (spA ((k, x, y, o, f), d, (k2, x2, y2, o2, f2), p)) 124)
  simp only [spA] at hnew hbw
  generalize w.alloc (.cells #[.int .i64 ↑k, .int .u8 ↑x.toNat, .int .u8 ↑y.toNat, .int .u8 ↑o.toNat, .int .u8 ↑f.toNat, .int .u8 ↑d.toNat, .int .i64 ↑k2, .int .u8 ↑x2.toNat, .int .u8 ↑y2.toNat, .int .u8 ↑o2.toNat, .int .u8 ↑f2.toNat, .int .u8 ↑p.toNat] 124) = W at *
  have hlW := lt_of_block hnew
  have hn1 : w1.heap[w.heap.size]? = some (.cells (spA ((k, x, y, o, f), d, (k2, x2, y2, o2, f2), p)) 124 (0, 0)) := by rw [hb1.block _ hlW]; exact hnew
  have hB1 := hbw.trans (hb1.mono hbw.size)
  have hs1 := Nat.lt_of_lt_of_le hlW hb1.size
  have HN1 := hid hn1
  obtain ⟨c0, c1, c2, c3, c4, c5, c6, c7, c8, c9, c10, c11⟩ := sp12 hn1
  clear hnew hbw hb1 hn1
  have hlit : (w1.alloc (.cells #[.int .u8 ↑x.toNat, .int .u8 ↑d.toNat, .int .u8 60] 5)).ownsRow w1.heap.size 5 1 (.slice (some ⟨w1.heap.size, 0, none⟩) 3 3) 3 ([x, d, 60].map bv) := World.ownsRow_lit w1 _ 3 (Nat.le_refl _) (by decide) rfl
  have hbl : Below w1.heap.size w1 (w1.alloc (.cells #[.int .u8 ↑x.toNat, .int .u8 ↑d.toNat, .int .u8 60] 5)) := (Below.refl _ _).alloc (Nat.le_refl _) _
  have hsl : w1.heap.size ≤ (w1.alloc (.cells #[.int .u8 ↑x.toNat, .int .u8 ↑d.toNat, .int .u8 60] 5)).heap.size := by simp
  by_cases hk : k = 2
  · subst hk
    rw [if_pos rfl] at HTS
    go_wp2_with (at_builtin; refine Lib.wpList_append_own_string _ rfl (.tmp 15) (.tmp 16) 71 9 rfl w1.heap.size 5 i0 Try.underlying71 Try.underlying9 hi hz0 hz1 hz2 _ 3 ([x, d, 60].map bv) rfl hlit (bs X) rfl (by rw [hsX]; unfold maxLen; omega) (by rw [hsX]; omega) hsl ?_; intro v3 w3 hown3 hgr _; have hB3 := hbl.grown hgr hsl (fun q hq => (hlit.lt q hq).1); have c0 := cell_below hB3 c0 hs1; have c6 := cell_below hB3 c6 hs1; have c7 := cell_below hB3 c7 hs1; have c8 := cell_below hB3 c8 hs1; have c9 := cell_below hB3 c9 hs1; have c10 := cell_below hB3 c10 hs1)
    refine (HT2.out _).mono ?_
    rintro e w4 ⟨rfl, hb4⟩
    have hown3' : w3.ownsRow w1.heap.size 5 1 v3 ([x, d, 60] ++ X).length (([x, d, 60] ++ X).map bv) := by rw [List.map_append, List.length_append]; exact hown3
    have hown4 := ownsRow_below hown3' hb4
    have hB4 := hB3.trans (hb4.mono hB3.size)
    have hs4 := hB4.size
    have e11 := cell_below hB4 c11 hs1
    have hLl : ([x, d, 60] ++ X).length ≤ 9 := by simp; omega
    have HTE : Hid (x :: d :: 60 :: (X ++ (Y ++ [p])) = ([x, d, 60] ++ X) ++ (Y ++ [p])) := by simp [Hid]
    generalize [x, d, 60] ++ X = LL at *
    have HB1 := hid hB1
    clear hown3 hown3' hb4 hB3 hgr hlit hbl hsl c0 c1 c2 c3 c4 c5 c6 c7 c8 c9 c10 hB1
    go_wp2_with (first | (at_builtin; refine Lib.wpList_append_own_string _ rfl (.tmp 25) (.tmp 26) 71 9 rfl w1.heap.size 5 i0 Try.underlying71 Try.underlying9 hi hz0 hz1 hz2 _ LL.length (LL.map bv) rfl hown4 (bs Y) rfl (by rw [hsY]; unfold maxLen; omega) (by rw [hsY]; omega) hs4 ?_; intro v5 w5 hown5 hgr5 _; have hB5 := hB4.grown hgr5 hs4 (fun q hq => (hown4.lt q hq).1); have hs5 := hB5.size; have f11 := cell_below hB5 c11 hs1; have hown5' : w5.ownsRow w1.heap.size 5 1 v5 (LL ++ Y).length ((LL ++ Y).map bv) := (by rw [List.map_append, List.length_append]; exact hown5)) | (at_builtin; refine append_new (w0 := w1) rfl (.tmp 28) (.tmp 31) 71 rfl w1.heap.size 5 i0 (.int .u8 0) 1 1 Try.underlying71 hi hz0 hz1 hz2 rfl (by decide) _ (LL ++ Y).length ((LL ++ Y).map bv) rfl hown5' #[.int .u8 ↑p.toNat] rfl (by simp [Value.oneCell']) rfl (by simp; omega) (by decide) hs5 hB5 ?_; intro v6 w6 hown6 hB6; have hcv := convert_any (l := LL ++ Y ++ [p]) (own_snoc hown6)))
    go_ret
    exact ⟨by rw [HTS.out, HTE.out]; rfl, HB1.out.trans (hB6.mono HB1.out.size)⟩
  · rw [if_neg hk, List.append_nil] at HTS
    have hkb : ((k : Int) == 2) = false := by rw [beq_eq_false_iff_ne]; omega
    go_wp2_with (at_builtin; refine Lib.wpList_append_own_string _ rfl (.tmp 15) (.tmp 16) 71 9 rfl w1.heap.size 5 i0 Try.underlying71 Try.underlying9 hi hz0 hz1 hz2 _ 3 ([x, d, 60].map bv) rfl hlit (bs X) rfl (by rw [hsX]; unfold maxLen; omega) (by rw [hsX]; omega) hsl ?_; intro v3 w3 hown3 hgr _; have hB3 := hbl.grown hgr hsl (fun q hq => (hlit.lt q hq).1); have c0 := cell_below hB3 c0 hs1; have hcv := convert_any (l := [x, d, 60] ++ X) (by rw [List.map_append, List.length_append]; exact hown3))
    go_ret
    exact ⟨by rw [HTS.out]; rfl, hB1.trans (hB3.mono hB1.size)⟩
end Go.Proofs.Ytmjlcajcobbcgab

namespace Go.Proofs.Ytmjlcajcobbcgab
open Go.RowKit

/-- The world behind the store of a step into a block. -/
def storedP (w : World) (b : Nat) (k : Nat) (x y o f d : UInt8) (k2 : Nat) (x2 y2 o2 f2 p : UInt8) : World := (((((((((((w.setCell ⟨b, 0, none⟩ (.int .i64 ↑k)).setCell ⟨b, 1, none⟩ (.int .u8 ↑x.toNat)).setCell ⟨b, 2, none⟩ (.int .u8 ↑y.toNat)).setCell ⟨b, 3, none⟩ (.int .u8 ↑o.toNat)).setCell ⟨b, 4, none⟩ (.int .u8 ↑f.toNat)).setCell ⟨b, 5, none⟩ (.int .u8 ↑d.toNat)).setCell ⟨b, 6, none⟩ (.int .i64 ↑k2)).setCell ⟨b, 7, none⟩ (.int .u8 ↑x2.toNat)).setCell ⟨b, 8, none⟩ (.int .u8 ↑y2.toNat)).setCell ⟨b, 9, none⟩ (.int .u8 ↑o2.toNat)).setCell ⟨b, 10, none⟩ (.int .u8 ↑f2.toNat)).setCell ⟨b, 11, none⟩ (.int .u8 ↑p.toNat)
theorem storedP_eq (w : World) (b : Nat) (k : Nat) (x y o f d : UInt8) (k2 : Nat) (x2 y2 o2 f2 p : UInt8) : (((((((((((w.setCell ⟨b, 0, none⟩ (.int .i64 ↑k)).setCell ⟨b, 1, none⟩ (.int .u8 ↑x.toNat)).setCell ⟨b, 2, none⟩ (.int .u8 ↑y.toNat)).setCell ⟨b, 3, none⟩ (.int .u8 ↑o.toNat)).setCell ⟨b, 4, none⟩ (.int .u8 ↑f.toNat)).setCell ⟨b, 5, none⟩ (.int .u8 ↑d.toNat)).setCell ⟨b, 6, none⟩ (.int .i64 ↑k2)).setCell ⟨b, 7, none⟩ (.int .u8 ↑x2.toNat)).setCell ⟨b, 8, none⟩ (.int .u8 ↑y2.toNat)).setCell ⟨b, 9, none⟩ (.int .u8 ↑o2.toNat)).setCell ⟨b, 10, none⟩ (.int .u8 ↑f2.toNat)).setCell ⟨b, 11, none⟩ (.int .u8 ↑p.toNat) = storedP w b k x y o f d k2 x2 y2 o2 f2 p := rfl
theorem storedP_zero (w : World) (b : Nat) : (((((((((((w.setCell ⟨b, 0, none⟩ (.int .i64 0)).setCell ⟨b, 1, none⟩ (.int .u8 0)).setCell ⟨b, 2, none⟩ (.int .u8 0)).setCell ⟨b, 3, none⟩ (.int .u8 0)).setCell ⟨b, 4, none⟩ (.int .u8 0)).setCell ⟨b, 5, none⟩ (.int .u8 0)).setCell ⟨b, 6, none⟩ (.int .i64 0)).setCell ⟨b, 7, none⟩ (.int .u8 0)).setCell ⟨b, 8, none⟩ (.int .u8 0)).setCell ⟨b, 9, none⟩ (.int .u8 0)).setCell ⟨b, 10, none⟩ (.int .u8 0)).setCell ⟨b, 11, none⟩ (.int .u8 0) = storedP w b 0 0 0 0 0 0 0 0 0 0 0 0 := rfl
set_option maxHeartbeats 1000000 in
theorem sets_sp (S : Al.Sp) (k : Nat) (x y o f d : UInt8) (k2 : Nat) (x2 y2 o2 f2 p : UInt8) : (((((((((((((spA S).setIfInBounds 0 (.int .i64 ↑k)).setIfInBounds 1 (.int .u8 ↑x.toNat)).setIfInBounds 2 (.int .u8 ↑y.toNat)).setIfInBounds 3 (.int .u8 ↑o.toNat)).setIfInBounds 4 (.int .u8 ↑f.toNat)).setIfInBounds 5 (.int .u8 ↑d.toNat)).setIfInBounds 6 (.int .i64 ↑k2)).setIfInBounds 7 (.int .u8 ↑x2.toNat)).setIfInBounds 8 (.int .u8 ↑y2.toNat)).setIfInBounds 9 (.int .u8 ↑o2.toNat)).setIfInBounds 10 (.int .u8 ↑f2.toNat)).setIfInBounds 11 (.int .u8 ↑p.toNat)) = spA ((k, x, y, o, f), d, (k2, x2, y2, o2, f2), p) := by simp [spA]
theorem storedP_block {w : World} {b : Nat} {S : Al.Sp} {k : Nat} {x y o f d : UInt8} {k2 : Nat} {x2 y2 o2 f2 p : UInt8} (h : w.heap[b]? = some (.cells (spA S) 124 (0, 0))) : (storedP w b k x y o f d k2 x2 y2 o2 f2 p).heap[b]? = some (.cells (spA ((k, x, y, o, f), d, (k2, x2, y2, o2, f2), p)) 124 (0, 0)) := by
  have h1 := block_setCell (j := 0) (.int .i64 ↑k) h
  have h2 := block_setCell (j := 1) (.int .u8 ↑x.toNat) h1
  have h3 := block_setCell (j := 2) (.int .u8 ↑y.toNat) h2
  have h4 := block_setCell (j := 3) (.int .u8 ↑o.toNat) h3
  have h5 := block_setCell (j := 4) (.int .u8 ↑f.toNat) h4
  have h6 := block_setCell (j := 5) (.int .u8 ↑d.toNat) h5
  have h7 := block_setCell (j := 6) (.int .i64 ↑k2) h6
  have h8 := block_setCell (j := 7) (.int .u8 ↑x2.toNat) h7
  have h9 := block_setCell (j := 8) (.int .u8 ↑y2.toNat) h8
  have h10 := block_setCell (j := 9) (.int .u8 ↑o2.toNat) h9
  have h11 := block_setCell (j := 10) (.int .u8 ↑f2.toNat) h10
  have h12 := block_setCell (j := 11) (.int .u8 ↑p.toNat) h11
  rw [sets_sp] at h12
  exact h12
theorem storedP_grown (w : World) (b : Nat) (k : Nat) (x y o f d : UInt8) (k2 : Nat) (x2 y2 o2 f2 p : UInt8) : w.grownBy (storedP w b k x y o f d k2 x2 y2 o2 f2 p) (some b) := grown_setCell (grown_setCell (grown_setCell (grown_setCell (grown_setCell (grown_setCell (grown_setCell (grown_setCell (grown_setCell (grown_setCell (grown_setCell (grown_setCell (grown_refl _ _))))))))))))
theorem storedP_below {w0 w : World} {B b : Nat} {k : Nat} {x y o f d : UInt8} {k2 : Nat} {x2 y2 o2 f2 p : UInt8} (h : Below B w0 w) (hb : B ≤ b) : Below B w0 (storedP w b k x y o f d k2 x2 y2 o2 f2 p) :=
  ((((((((((((h.setCell hb _).setCell hb _).setCell hb _).setCell hb _).setCell hb _).setCell hb _).setCell hb _).setCell hb _).setCell hb _).setCell hb _).setCell hb _).setCell hb _)
theorem storedP_size (w : World) (b : Nat) (k : Nat) (x y o f d : UInt8) (k2 : Nat) (x2 y2 o2 f2 p : UInt8) : (storedP w b k x y o f d k2 x2 y2 o2 f2 p).heap.size = w.heap.size := by simp [storedP, World.setCell]
theorem sp_free {w : World} {b : Nat} {S : Array Value} (h : w.heap[b]? = some (.cells S 124 (0, 0))) : w.frozen? ⟨b, 0, none⟩ = false ∧ w.frozen? ⟨b, 1, none⟩ = false ∧ w.frozen? ⟨b, 2, none⟩ = false ∧ w.frozen? ⟨b, 3, none⟩ = false ∧ w.frozen? ⟨b, 4, none⟩ = false ∧ w.frozen? ⟨b, 5, none⟩ = false ∧ w.frozen? ⟨b, 6, none⟩ = false ∧ w.frozen? ⟨b, 7, none⟩ = false ∧ w.frozen? ⟨b, 8, none⟩ = false ∧ w.frozen? ⟨b, 9, none⟩ = false ∧ w.frozen? ⟨b, 10, none⟩ = false ∧ w.frozen? ⟨b, 11, none⟩ = false :=
  ⟨block_free h, block_free h, block_free h, block_free h, block_free h, block_free h, block_free h, block_free h, block_free h, block_free h, block_free h, block_free h⟩

end Go.Proofs.Ytmjlcajcobbcgab

namespace Go.Proofs.Ytmjlcajcobbcgab
open Go.RowKit

theorem three_boxes (w : World) (R : Al.Rw) (s : Al.Sp) (Z : Obj) : (((w.alloc (.cells (tabA R) 75)).alloc (.cells (spA s) 124)).alloc Z).heap[w.heap.size]? = some (.cells (tabA R) 75 (0, 0)) ∧ (((w.alloc (.cells (tabA R) 75)).alloc (.cells (spA s) 124)).alloc Z).heap[w.heap.size + 1]? = some (.cells (spA s) 124 (0, 0)) ∧ (((w.alloc (.cells (tabA R) 75)).alloc (.cells (spA s) 124)).alloc Z).heap[w.heap.size + 2]? = some Z ∧
    Below w.heap.size w (((w.alloc (.cells (tabA R) 75)).alloc (.cells (spA s) 124)).alloc Z) :=
  ⟨by rw [Below.heap_alloc _ _ _ (by simp; omega), Below.heap_alloc _ _ _ (by simp)]; exact heap_alloc_new w _, by rw [Below.heap_alloc _ _ _ (by simp)]; exact heap2 w _ _, by have := heap_alloc_new ((w.alloc (.cells (tabA R) 75)).alloc (.cells (spA s) 124)) Z; simpa using this, (((Below.refl _ _).alloc (Nat.le_refl _) _).alloc (by simp) _).alloc (by simp; omega) _⟩

theorem storedT_keep {w : World} {b c i : Nat} {v : Value} {R : Al.Rw} (hne : c ≠ b) (h : w.cell? ⟨c, i, none⟩ = some v) : (storedT w b R).cell? ⟨c, i, none⟩ = some v := by
  have hl := World.block_lt_of_cell? w _ h
  have hb := (storedT_grown w b R).block c hl (by simpa using hne)
  unfold World.cell? at h ⊢
  rw [hb]; exact h

/-- The ways of a region brought together: one frame behind it, and a fact on the world. -/
def mergePost (Q : Exit → Act → World → Prop) (a' : Act) (F : World → Prop) : Exit → Act → World → Prop
  | .normal, a, w => a = a' ∧ F w
  | e, a, w => Q e a w
theorem wp_merge {P : Program} {c : Code} {Q : Exit → Act → World → Prop} {a : Act} {w : World} (F : World → Prop) (a' : Act) (h : c.wp P (mergePost Q a' F) a w) (hkey : ∀ w', F w' → Q .normal a' w') : c.wp P Q a w :=
  wp_mono h fun e a2 w2 q => by
    cases e with
    | normal => obtain ⟨rfl, h2⟩ := q; exact hkey w2 h2
    | exit _ => exact q
    | goto _ => exact q
    | ret => exact q
    | panic _ => exact q
    | outgrown => exact q
theorem undrew {B : Nat} {w w' : World} (h : Below B w.drew w') : Below B w w' := ⟨h.os, h.tape, h.output, h.size, h.block⟩
/-- The boxes of plusNeeds: the table, the step, the result. -/
structure Bx3 (w W : World) (R : Al.Rw) (s : Al.Sp) : Prop where
  tab : W.heap[w.heap.size]? = some (.cells (tabA R) 75 (0, 0))
  stp : W.heap[w.heap.size + 1]? = some (.cells (spA s) 124 (0, 0))
  res : W.heap[w.heap.size + 1 + 1]? = some (.cells (tabA Al.zeroR) 75 (0, 0))
  bel : Below w.heap.size w W
theorem Bx3.next {w W w2 : World} {R N : Al.Rw} {s : Al.Sp} (h : Bx3 w W R s) (hb : Below W.heap.size W w2) : Bx3 w (storedT w2 w.heap.size N) N s := by
  have h1 : w2.heap[w.heap.size]? = some (.cells (tabA R) 75 (0, 0)) := by rw [hb.block _ (lt_of_block h.tab)]; exact h.tab
  have h2 : w2.heap[w.heap.size + 1]? = some (.cells (spA s) 124 (0, 0)) := by rw [hb.block _ (lt_of_block h.stp)]; exact h.stp
  have h3 : w2.heap[w.heap.size + 1 + 1]? = some (.cells (tabA Al.zeroR) 75 (0, 0)) := by rw [hb.block _ (lt_of_block h.res)]; exact h.res
  exact ⟨storedT_block h1, by rw [(storedT_grown w2 _ N).block _ (lt_of_block h2) (by simp)]; exact h2, by rw [(storedT_grown w2 _ N).block _ (lt_of_block h3) (by simp; omega)]; exact h3, storedT_below (h.bel.trans (hb.mono h.bel.size)) (Nat.le_refl _)⟩
theorem Bx3.ends {w W w2 : World} {R N : Al.Rw} {s : Al.Sp} (h : Bx3 w W R s) (hb : Below W.heap.size W w2) : (storedT w2 (w.heap.size + 1 + 1) N).heap[w.heap.size + 1 + 1]? = some (.cells (tabA N) 75 (0, 0)) ∧ Below w.heap.size w (storedT w2 (w.heap.size + 1 + 1) N) := by
  have h3 : w2.heap[w.heap.size + 1 + 1]? = some (.cells (tabA Al.zeroR) 75 (0, 0)) := by rw [hb.block _ (lt_of_block h.res)]; exact h.res
  exact ⟨storedT_block h3, storedT_below (h.bel.trans (hb.mono h.bel.size)) (by omega)⟩

set_option maxRecDepth 100000 in
set_option maxHeartbeats 20000000 in
theorem plusNeeds_any (R : Al.Rw) (s : Al.Sp) (w : World) (hR : Al.OkR R) :
    Calls Try.prog 91 #[.agg (tabA R), .agg (spA s)] w fun e w' => e = .returned (.agg (tabA (Al.needR R s))) ∧ Below w.heap.size w w' := by
  have HNR : Hid (Al.needR R s = if s.1.1 = 1 then Al.plusR R s.1.2.2.1.toNat (Al.onlyR s.2.1.toNat) else if s.1.1 = 2 then Al.plusR (Al.plusR (Al.plusR R s.2.2.1.2.1.toNat (Al.onlyR s.2.2.2.toNat)) s.1.2.2.1.toNat (Al.onlyR s.2.2.2.toNat)) s.2.2.1.2.2.1.toNat (Al.onlyR s.2.1.toNat) else R) := rfl
  generalize Al.needR R s = NR at *
  have HPL := hid (fun (S : Al.Rw) (c q : UInt8) wx (hS : Al.OkR S) => plus_any S c.toNat (Al.onlyR q.toNat) wx (by have := c.toNat_lt; omega) hS (Al.onlyR_ok _))
  have HR := hid hR
  obtain ⟨⟨k, x, y, o, f⟩, d, ⟨k2, x2, y2, o2, f2⟩, p⟩ := s
  have HONd := hid (fun wx => only_any d.toNat wx (by have := d.toNat_lt; omega))
  have HONp := hid (fun wx => only_any p.toNat wx (by have := p.toNat_lt; omega))
  have HOd : Hid (Al.onlyR d.toNat < 4096) := Al.onlyR_ok _
  have HOp : Hid (Al.onlyR p.toNat < 4096) := Al.onlyR_ok _
  have HPd := hid (fun (S : Al.Rw) (c : UInt8) wx (hS : Al.OkR S) => HPL.out S c d wx hS)
  have HPp := hid (fun (S : Al.Rw) (c : UInt8) wx (hS : Al.OkR S) => HPL.out S c p wx hS)
  simp only at HNR
  clear hR HPL
  generalize Al.onlyR d.toNat = md at *
  generalize Al.onlyR p.toNat = mp at *
  obtain ⟨hT, hS, hZ, hbw⟩ := three_boxes w R ((k, x, y, o, f), d, (k2, x2, y2, o2, f2), p) (.cells (tabA Al.zeroR) 75)
  rw [show tabA Al.zeroR = #[.int .i64 0, .int .i64 0, .int .i64 0, .int .i64 0, .int .i64 0, .int .i64 0, .int .i64 0, .int .i64 0, .int .i64 0, .int .i64 0, .int .i64 0, .int .i64 0] from rfl] at hT hS hZ hbw
  simp only [show tabA R = #[.int .i64 ↑(R 0), .int .i64 ↑(R 1), .int .i64 ↑(R 2), .int .i64 ↑(R 3), .int .i64 ↑(R 4), .int .i64 ↑(R 5), .int .i64 ↑(R 6), .int .i64 ↑(R 7), .int .i64 ↑(R 8), .int .i64 ↑(R 9), .int .i64 ↑(R 10), .int .i64 ↑(R 11)] from rfl, spA] at hT hS hZ hbw ⊢
  have HBW := hid hbw
  have HTT : Hid (_ = some (Obj.cells (tabA R) 75 (0, 0))) := hT
  have HSS : Hid (_ = some (Obj.cells (spA ((k, x, y, o, f), d, (k2, x2, y2, o2, f2), p)) 124 (0, 0))) := hS
  have HZZ : Hid (_ = some (Obj.cells (tabA Al.zeroR) 75 (0, 0))) := hZ
  by_cases h1 : k = 1
  · subst h1
    rw [if_pos rfl] at HNR
    have HP1 := hid (fun wx => HPd.out R y wx HR.out)
    rw [← HNR.out] at HP1
    simp only [tabA] at HP1
    obtain ⟨t0, t1, t2, t3, t4, t5, t6, t7, t8, t9, t10, t11⟩ := tab12 HTT.out
    obtain ⟨c0, c1, c2, c3, c4, c5, c6, c7, c8, c9, c10, c11⟩ := sp12 HSS.out
    clear hT hS hZ hbw
    go_enter Try.func91, Try.ntmps91
    go_wp2_with fail
    generalize ((w.alloc (.cells #[.int .i64 ↑(R 0), .int .i64 ↑(R 1), .int .i64 ↑(R 2), .int .i64 ↑(R 3), .int .i64 ↑(R 4), .int .i64 ↑(R 5), .int .i64 ↑(R 6), .int .i64 ↑(R 7), .int .i64 ↑(R 8), .int .i64 ↑(R 9), .int .i64 ↑(R 10), .int .i64 ↑(R 11)] 75)).alloc (.cells #[.int .i64 ↑(1 : Nat), .int .u8 ↑x.toNat, .int .u8 ↑y.toNat, .int .u8 ↑o.toNat, .int .u8 ↑f.toNat, .int .u8 ↑d.toNat, .int .i64 ↑k2, .int .u8 ↑x2.toNat, .int .u8 ↑y2.toNat, .int .u8 ↑o2.toNat, .int .u8 ↑f2.toNat, .int .u8 ↑p.toNat] 124)).alloc (.cells #[.int .i64 0, .int .i64 0, .int .i64 0, .int .i64 0, .int .i64 0, .int .i64 0, .int .i64 0, .int .i64 0, .int .i64 0, .int .i64 0, .int .i64 0, .int .i64 0] 75) = W at *
    go_region_held3 (fun w' => w'.cell? ⟨w.heap.size + 1, 2, none⟩ = some (.int .u8 ↑y.toNat) ∧ w'.cell? ⟨w.heap.size + 1, 5, none⟩ = some (.int .u8 ↑d.toNat) ∧ w'.cell? ⟨w.heap.size, 0, none⟩ = some (.int .i64 ↑(R 0)) ∧ w'.cell? ⟨w.heap.size, 1, none⟩ = some (.int .i64 ↑(R 1)) ∧ w'.cell? ⟨w.heap.size, 2, none⟩ = some (.int .i64 ↑(R 2)) ∧ w'.cell? ⟨w.heap.size, 3, none⟩ = some (.int .i64 ↑(R 3)) ∧ w'.cell? ⟨w.heap.size, 4, none⟩ = some (.int .i64 ↑(R 4)) ∧ w'.cell? ⟨w.heap.size, 5, none⟩ = some (.int .i64 ↑(R 5)) ∧ w'.cell? ⟨w.heap.size, 6, none⟩ = some (.int .i64 ↑(R 6)) ∧ w'.cell? ⟨w.heap.size, 7, none⟩ = some (.int .i64 ↑(R 7)) ∧ w'.cell? ⟨w.heap.size, 8, none⟩ = some (.int .i64 ↑(R 8)) ∧ w'.cell? ⟨w.heap.size, 9, none⟩ = some (.int .i64 ↑(R 9)) ∧ w'.cell? ⟨w.heap.size, 10, none⟩ = some (.int .i64 ↑(R 10)) ∧ w'.cell? ⟨w.heap.size, 11, none⟩ = some (.int .i64 ↑(R 11))) (first | (rw [storedT_eq]; go_split_ands; exact ⟨storedT_keep (by omega) (by assumption), storedT_keep (by omega) (by assumption), storedT_keep (by omega) (by assumption), storedT_keep (by omega) (by assumption), storedT_keep (by omega) (by assumption), storedT_keep (by omega) (by assumption), storedT_keep (by omega) (by assumption), storedT_keep (by omega) (by assumption), storedT_keep (by omega) (by assumption), storedT_keep (by omega) (by assumption), storedT_keep (by omega) (by assumption), storedT_keep (by omega) (by assumption), storedT_keep (by omega) (by assumption), storedT_keep (by omega) (by assumption)⟩) | exact ⟨c2, c5, t0, t1, t2, t3, t4, t5, t6, t7, t8, t9, t10, t11⟩ | (go_split_ands; exact ⟨cell_keep hb2 (by assumption), cell_keep hb2 (by assumption), cell_keep hb2 (by assumption), cell_keep hb2 (by assumption), cell_keep hb2 (by assumption), cell_keep hb2 (by assumption), cell_keep hb2 (by assumption), cell_keep hb2 (by assumption), cell_keep hb2 (by assumption), cell_keep hb2 (by assumption), cell_keep hb2 (by assumption), cell_keep hb2 (by assumption), cell_keep hb2 (by assumption), cell_keep hb2 (by assumption)⟩)) ((first | (go_at_call 70; refine (HONd.out _).mono ?_; rintro e w' ⟨rfl, rfl⟩) | (go_at_call 69; refine (HP1.out _).mono ?_; rintro e w2 ⟨rfl, hb2⟩; have hZ2 : w2.heap[w.heap.size + 2]? = some (.cells (tabA Al.zeroR) 75 (0, 0)) := (by rw [hb2.block _ (lt_of_block HZZ.out)]; exact HZZ.out); obtain ⟨z0, z1, z2, z3, z4, z5, z6, z7, z8, z9, z10, z11⟩ := tab12 hZ2; obtain ⟨f0, f1, f2, f3, f4, f5, f6, f7, f8, f9, f10, f11⟩ := tab_free hZ2)))
    have hst := storedT_block (b := w.heap.size + 1 + 1) (R := NR) hZ2
    have hBX := HBW.out.drew.trans (hb2.mono HBW.out.size)
    have HBS := hid (storedT_below (R := NR) hBX (b := w.heap.size + 1 + 1) (by omega))
    clear t0 t1 t2 t3 t4 t5 t6 t7 t8 t9 t10 t11 c0 c1 c2 c3 c4 c5 c6 c7 c8 c9 c10 c11 z0 z1 z2 z3 z4 z5 z6 z7 z8 z9 z10 z11 f0 f1 f2 f3 f4 f5 f6 f7 f8 f9 f10 f11 hZ2 hBX hb2
    go_wp2_with fail
    rw [storedT_eq]
    generalize storedT w2 (w.heap.size + 1 + 1) NR = W9 at *
    obtain ⟨t0, t1, t2, t3, t4, t5, t6, t7, t8, t9, t10, t11⟩ := tab12 hst
    exact bodyPost_ret (v := .agg #[.int .i64 ↑(NR 0), .int .i64 ↑(NR 1), .int .i64 ↑(NR 2), .int .i64 ↑(NR 3), .int .i64 ↑(NR 4), .int .i64 ↑(NR 5), .int .i64 ↑(NR 6), .int .i64 ↑(NR 7), .int .i64 ↑(NR 8), .int .i64 ↑(NR 9), .int .i64 ↑(NR 10), .int .i64 ↑(NR 11)]) (by simp [results, Try.results91, go_sem, t0, t1, t2, t3, t4, t5, t6, t7, t8, t9, t10, t11]) rfl ⟨rfl, HBS.out⟩
  by_cases h2 : k = 2
  · subst h2
    rw [if_neg (by simp), if_pos rfl] at HNR
    have HP1 := hid (fun wx => HPp.out R x2 wx HR.out)
    have HK1 := hid (Al.plusR_ok HR.out x2.toNat HOp.out)
    generalize Al.plusR R x2.toNat mp = N1 at *
    have HP2 := hid (fun wx => HPp.out N1 y wx HK1.out)
    have HK2 := hid (Al.plusR_ok HK1.out y.toNat HOp.out)
    generalize Al.plusR N1 y.toNat mp = N2 at *
    have HP3 := hid (fun wx => HPd.out N2 y2 wx HK2.out)
    rw [← HNR.out] at HP3
    simp only [tabA] at HP1 HP2 HP3
    obtain ⟨t0, t1, t2, t3, t4, t5, t6, t7, t8, t9, t10, t11⟩ := tab12 HTT.out
    obtain ⟨c0, c1, c2, c3, c4, c5, c6, c7, c8, c9, c10, c11⟩ := sp12 HSS.out
    clear hT hS hZ hbw
    go_enter Try.func91, Try.ntmps91
    go_wp2_with fail
    generalize ((w.alloc (.cells #[.int .i64 ↑(R 0), .int .i64 ↑(R 1), .int .i64 ↑(R 2), .int .i64 ↑(R 3), .int .i64 ↑(R 4), .int .i64 ↑(R 5), .int .i64 ↑(R 6), .int .i64 ↑(R 7), .int .i64 ↑(R 8), .int .i64 ↑(R 9), .int .i64 ↑(R 10), .int .i64 ↑(R 11)] 75)).alloc (.cells #[.int .i64 ↑(2 : Nat), .int .u8 ↑x.toNat, .int .u8 ↑y.toNat, .int .u8 ↑o.toNat, .int .u8 ↑f.toNat, .int .u8 ↑d.toNat, .int .i64 ↑k2, .int .u8 ↑x2.toNat, .int .u8 ↑y2.toNat, .int .u8 ↑o2.toNat, .int .u8 ↑f2.toNat, .int .u8 ↑p.toNat] 124)).alloc (.cells #[.int .i64 0, .int .i64 0, .int .i64 0, .int .i64 0, .int .i64 0, .int .i64 0, .int .i64 0, .int .i64 0, .int .i64 0, .int .i64 0, .int .i64 0, .int .i64 0] 75) = W at *
    have HB0 : Hid (Bx3 w W R ((2, x, y, o, f), d, (k2, x2, y2, o2, f2), p)) := ⟨HTT.out, HSS.out, HZZ.out, HBW.out⟩
    clear HTT HSS HZZ HBW HPd HPp HOd HOp HK1 HK2 HR
    apply wp_merge (fun w' => Bx3 w w' N1 ((2, x, y, o, f), d, (k2, x2, y2, o2, f2), p))
    case h =>
      go_region_with (first | (go_at_call 70; refine (HONp.out _).mono ?_; rintro e w' ⟨rfl, rfl⟩) | (go_at_call 69; refine (HP1.out _).mono ?_; rintro e w2 ⟨rfl, hb2⟩; have hZ2 : w2.heap[w.heap.size]? = some (.cells (tabA R) 75 (0, 0)) := (by rw [hb2.block _ (lt_of_block HB0.out.tab)]; exact HB0.out.tab); obtain ⟨z0, z1, z2, z3, z4, z5, z6, z7, z8, z9, z10, z11⟩ := tab12 hZ2; obtain ⟨q0, q1, q2, q3, q4, q5, q6, q7, q8, q9, q10, q11⟩ := tab_free hZ2))
      all_goals
        rw [storedT_eq]
        exact ⟨rfl, HB0.out.next (N := N1) (undrew hb2)⟩
    clear t0 t1 t2 t3 t4 t5 t6 t7 t8 t9 t10 t11 c0 c1 c2 c3 c4 c5 c6 c7 c8 c9 c10 c11
    intro W1 hB1
    have HB1 := hid hB1
    clear hB1
    obtain ⟨t0, t1, t2, t3, t4, t5, t6, t7, t8, t9, t10, t11⟩ := tab12 HB1.out.tab
    obtain ⟨c0, c1, c2, c3, c4, c5, c6, c7, c8, c9, c10, c11⟩ := sp12 HB1.out.stp
    go_wp2_with fail
    apply wp_merge (fun w' => Bx3 w w' N2 ((2, x, y, o, f), d, (k2, x2, y2, o2, f2), p))
    case h =>
      go_region_with (first | (go_at_call 70; refine (HONp.out _).mono ?_; rintro e w' ⟨rfl, rfl⟩) | (go_at_call 69; refine (HP2.out _).mono ?_; rintro e w3 ⟨rfl, hb3⟩; have hZ2 : w3.heap[w.heap.size]? = some (.cells (tabA N1) 75 (0, 0)) := (by rw [hb3.block _ (lt_of_block HB1.out.tab)]; exact HB1.out.tab); obtain ⟨z0, z1, z2, z3, z4, z5, z6, z7, z8, z9, z10, z11⟩ := tab12 hZ2; obtain ⟨q0, q1, q2, q3, q4, q5, q6, q7, q8, q9, q10, q11⟩ := tab_free hZ2))
      all_goals
        rw [storedT_eq]
        exact ⟨rfl, HB1.out.next (N := N2) (undrew hb3)⟩
    clear t0 t1 t2 t3 t4 t5 t6 t7 t8 t9 t10 t11 c0 c1 c2 c3 c4 c5 c6 c7 c8 c9 c10 c11
    intro W2 hB2
    have HB2 := hid hB2
    clear hB2
    obtain ⟨t0, t1, t2, t3, t4, t5, t6, t7, t8, t9, t10, t11⟩ := tab12 HB2.out.tab
    obtain ⟨c0, c1, c2, c3, c4, c5, c6, c7, c8, c9, c10, c11⟩ := sp12 HB2.out.stp
    go_wp2_with fail
    go_region_held3 (fun w' => w'.cell? ⟨w.heap.size + 1, 8, none⟩ = some (.int .u8 ↑y2.toNat) ∧ w'.cell? ⟨w.heap.size + 1, 5, none⟩ = some (.int .u8 ↑d.toNat) ∧ w'.cell? ⟨w.heap.size, 0, none⟩ = some (.int .i64 ↑(N2 0)) ∧ w'.cell? ⟨w.heap.size, 1, none⟩ = some (.int .i64 ↑(N2 1)) ∧ w'.cell? ⟨w.heap.size, 2, none⟩ = some (.int .i64 ↑(N2 2)) ∧ w'.cell? ⟨w.heap.size, 3, none⟩ = some (.int .i64 ↑(N2 3)) ∧ w'.cell? ⟨w.heap.size, 4, none⟩ = some (.int .i64 ↑(N2 4)) ∧ w'.cell? ⟨w.heap.size, 5, none⟩ = some (.int .i64 ↑(N2 5)) ∧ w'.cell? ⟨w.heap.size, 6, none⟩ = some (.int .i64 ↑(N2 6)) ∧ w'.cell? ⟨w.heap.size, 7, none⟩ = some (.int .i64 ↑(N2 7)) ∧ w'.cell? ⟨w.heap.size, 8, none⟩ = some (.int .i64 ↑(N2 8)) ∧ w'.cell? ⟨w.heap.size, 9, none⟩ = some (.int .i64 ↑(N2 9)) ∧ w'.cell? ⟨w.heap.size, 10, none⟩ = some (.int .i64 ↑(N2 10)) ∧ w'.cell? ⟨w.heap.size, 11, none⟩ = some (.int .i64 ↑(N2 11))) (first | (rw [storedT_eq]; go_split_ands; exact ⟨storedT_keep (by omega) (by assumption), storedT_keep (by omega) (by assumption), storedT_keep (by omega) (by assumption), storedT_keep (by omega) (by assumption), storedT_keep (by omega) (by assumption), storedT_keep (by omega) (by assumption), storedT_keep (by omega) (by assumption), storedT_keep (by omega) (by assumption), storedT_keep (by omega) (by assumption), storedT_keep (by omega) (by assumption), storedT_keep (by omega) (by assumption), storedT_keep (by omega) (by assumption), storedT_keep (by omega) (by assumption), storedT_keep (by omega) (by assumption)⟩) | exact ⟨c8, c5, t0, t1, t2, t3, t4, t5, t6, t7, t8, t9, t10, t11⟩ | (go_split_ands; exact ⟨cell_keep hb4 (by assumption), cell_keep hb4 (by assumption), cell_keep hb4 (by assumption), cell_keep hb4 (by assumption), cell_keep hb4 (by assumption), cell_keep hb4 (by assumption), cell_keep hb4 (by assumption), cell_keep hb4 (by assumption), cell_keep hb4 (by assumption), cell_keep hb4 (by assumption), cell_keep hb4 (by assumption), cell_keep hb4 (by assumption), cell_keep hb4 (by assumption), cell_keep hb4 (by assumption)⟩)) ((first | (go_at_call 70; refine (HONd.out _).mono ?_; rintro e w' ⟨rfl, rfl⟩) | (go_at_call 69; refine (HP3.out _).mono ?_; rintro e w4 ⟨rfl, hb4⟩; have hZ2 : w4.heap[w.heap.size + 1 + 1]? = some (.cells (tabA Al.zeroR) 75 (0, 0)) := (by rw [hb4.block _ (lt_of_block HB2.out.res)]; exact HB2.out.res); obtain ⟨z0, z1, z2, z3, z4, z5, z6, z7, z8, z9, z10, z11⟩ := tab12 hZ2; obtain ⟨q0, q1, q2, q3, q4, q5, q6, q7, q8, q9, q10, q11⟩ := tab_free hZ2)))
    rw [storedT_eq]
    obtain ⟨hst, hbs⟩ := HB2.out.ends (N := NR) (undrew hb4)
    have HBS := hid hbs
    clear t0 t1 t2 t3 t4 t5 t6 t7 t8 t9 t10 t11 c0 c1 c2 c3 c4 c5 c6 c7 c8 c9 c10 c11 z0 z1 z2 z3 z4 z5 z6 z7 z8 z9 z10 z11 q0 q1 q2 q3 q4 q5 q6 q7 q8 q9 q10 q11 hZ2 hb4 hbs
    generalize storedT w4 (w.heap.size + 1 + 1) NR = W9 at *
    obtain ⟨t0, t1, t2, t3, t4, t5, t6, t7, t8, t9, t10, t11⟩ := tab12 hst
    go_wp2_with fail
    exact bodyPost_ret (v := .agg #[.int .i64 ↑(NR 0), .int .i64 ↑(NR 1), .int .i64 ↑(NR 2), .int .i64 ↑(NR 3), .int .i64 ↑(NR 4), .int .i64 ↑(NR 5), .int .i64 ↑(NR 6), .int .i64 ↑(NR 7), .int .i64 ↑(NR 8), .int .i64 ↑(NR 9), .int .i64 ↑(NR 10), .int .i64 ↑(NR 11)]) (by simp [results, Try.results91, go_sem, t0, t1, t2, t3, t4, t5, t6, t7, t8, t9, t10, t11]) rfl ⟨rfl, HBS.out⟩
  · rw [if_neg h1, if_neg h2] at HNR
    have g1 : ((k : Int) == 1) = false := by rw [beq_eq_false_iff_ne]; omega
    have g2 : ((k : Int) == 2) = false := by rw [beq_eq_false_iff_ne]; omega
    clear hT hS hZ hbw HTT HSS HZZ
    go_enter Try.func91, Try.ntmps91
    go_wp2_with fail
    exact bodyPost_ret (v := .agg #[.int .i64 ↑(R 0), .int .i64 ↑(R 1), .int .i64 ↑(R 2), .int .i64 ↑(R 3), .int .i64 ↑(R 4), .int .i64 ↑(R 5), .int .i64 ↑(R 6), .int .i64 ↑(R 7), .int .i64 ↑(R 8), .int .i64 ↑(R 9), .int .i64 ↑(R 10), .int .i64 ↑(R 11)]) (by simp [results, Try.results91, go_sem]) rfl ⟨by rw [HNR.out]; rfl, (((Below.refl _ _).alloc (Nat.le_refl _) _).alloc (by simp) _).alloc (by simp; omega) _⟩
end Go.Proofs.Ytmjlcajcobbcgab
