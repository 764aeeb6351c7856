import Derived.Test.YtljafkdaljkanaaProgB
namespace Go.Proofs.Ytljafkdaljkanaa
open Go.RowKit

theorem fill_succ : ∀ (q u : List UInt8) (s : Al.St) (k : Nat) (h1 : k < q.length) (h2 : k < u.length), Al.fillSt (q.take (k + 1)) u s = Al.fillStep q[k] u[k] (Al.fillSt (q.take k) u s)
  | [], _, _, _, h1, _ => by simp at h1
  | _ :: _, [], _, _, _, h2 => by simp at h2
  | m :: q, c :: u, s, 0, _, _ => by simp [Al.fillSt]
  | m :: q, c :: u, s, k + 1, h1, h2 => by
    simp only [List.take_succ_cons, Al.fillSt, List.getElem_cons_succ]
    exact fill_succ q u (Al.fillStep m c s) k (by simpa using h1) (by simpa using h2)
theorem drop_get (s : ByteArray) (i k : Nat) (h : i + k < s.size) (h' : k < (s.data.toList.drop i).length) : (s.data.toList.drop i)[k] = s[i + k] := by
  rw [List.getElem_drop]; rfl

set_option maxRecDepth 100000 in
set_option maxHeartbeats 1000000 in
theorem fill_any (kd : Nat) (s : ByteArray) (i : Nat) (w : World) (hi : i ≤ 1000000) (hf : i + Al.shpLen kd ≤ s.size) :
    Calls Try.prog 94 #[.int .i64 kd, .string s, .int .i64 i] w fun e w' => e = .returned (.agg (stA (Al.mkSt kd (s.data.toList.drop i)))) ∧ Below w.heap.size w w' := by
  have hq6 := Al.shpLen_ge kd
  have HSH := hid (shapeOf_any kd)
  obtain ⟨S0, hS0⟩ : ∃ S, Al.mkSt kd (s.data.toList.drop i) = S := ⟨_, rfl⟩
  rw [hS0]
  have HM : Hid (S0 = Al.fillSt (Al.shp kd) (s.data.toList.drop i) (kd, 0, 0, 0, 0)) := hS0.symm
  clear hS0
  have hbsz : (bs (Al.shp kd)).size = (Al.shp kd).length := rfl
  rw [← Al.shp_length] at hq6 hf
  generalize Al.shp kd = q at *
  have HU : Hid ((s.data.toList.drop i).length = s.size - i) := by rw [Hid, List.length_drop]; rfl
  go_enter Try.func94, Try.ntmps94
  go_wp2_with fail
  refine (HSH.out _).mono ?_
  rintro e w1 ⟨rfl, rfl⟩
  go_wp2_with fail
  generalize hu : s.data.toList.drop i = u at *
  have HUE := hid hu
  clear hu
  go_loopw [9] (fun i9 wr => ∃ k : Nat, k ≤ q.length ∧ i9 = .int .i64 k ∧ wr.heap[w.heap.size]? = some (.cells (stA (0, 0, 0, 0, 0)) 72 (0, 0)) ∧ wr.heap[w.heap.size + 1]? = some (.cells (stA (Al.fillSt (q.take k) u (kd, 0, 0, 0, 0))) 72 (0, 0)) ∧ Below w.heap.size w wr) (fun i9 _ => q.length - (intOf i9).toNat)
  case atStart =>
    refine ⟨0, Nat.zero_le _, rfl, ?_, ?_, ((Below.refl _ _).alloc (Nat.le_refl _) _).alloc (by rw [World.size_alloc]; omega) _⟩
    · rw [Below.heap_alloc _ _ _ (by rw [World.size_alloc]; omega)]; exact heap_alloc_new w _
    · exact heap2 w _ _
  case round =>
    obtain ⟨k, hk, rfl, hb0, hb1, hbel⟩ := hrel
    have hsz := hbel.size
    by_cases hlt : k < q.length
    · have hlu : k < u.length := by rw [HU.out]; omega
      have HSC := hid (fill_succ q u (kd, 0, 0, 0, 0) k hlt hlu)
      have HGU : Hid (u[k] = s[i + k]'(by omega)) := by
        have := drop_get s i k (by omega) (by rw [HUE.out]; exact hlu)
        exact hid (by simpa [HUE.out] using this)
      generalize Al.fillSt (q.take k) u (kd, 0, 0, 0, 0) = S at *
      obtain ⟨kk, x, y, o, f⟩ := S
      have l2 : i + k < s.size := by omega
      have hwr : IntKind.i64.wrap ((i : Int) + (k : Int)) = (i : Int) + (k : Int) := IntWalk.i64_in _ ⟨by omega, by omega⟩
      have hix := index_sum s i k l2
      have hcast : ((i : Int) + (k : Int)) < (s.size : Int) := by omega
      have HB0 := hid hb0
      have HB1 := hid hb1
      have HBEL := hid hbel
      have c1 := block_cell (j := 1) hb1
      have c2 := block_cell (j := 2) hb1
      have c3 := block_cell (j := 3) hb1
      have c4 := block_cell (j := 4) hb1
      have f1 := block_free (j := 1) hb1
      have f2 := block_free (j := 2) hb1
      have f3 := block_free (j := 3) hb1
      have f4 := block_free (j := 4) hb1
      simp only [stA, List.getElem?_toArray, List.getElem?_cons_zero, List.getElem?_cons_succ] at c1 c2 c3 c4
      clear hb0 hb1 hbel
      by_cases m1 : q[k] = 120
      · have hm : ((bs q)[k].toNat : Int) = 120 := by show ((q[k]).toNat : Int) = _; rw [m1]; rfl
        go_wp2
        go_roundw
        case rel =>
          refine ⟨k + 1, by omega, by go_num, ?_, ?_, HBEL.out.setCell (by simp) _⟩
          · rw [Below.heap_setCell _ _ _ _ (by simp)]; exact HB0.out
          · rw [block_setCell _ HB1.out, HSC.out, HGU.out, m1]; rfl
        case measure => simp [intOf]; omega
      by_cases m2 : q[k] = 121
      · have hm : ((bs q)[k].toNat : Int) = 121 := by show ((q[k]).toNat : Int) = _; rw [m2]; rfl
        go_wp2
        go_roundw
        case rel =>
          refine ⟨k + 1, by omega, by go_num, ?_, ?_, HBEL.out.setCell (by simp) _⟩
          · rw [Below.heap_setCell _ _ _ _ (by simp)]; exact HB0.out
          · rw [block_setCell _ HB1.out, HSC.out, HGU.out, m2]; rfl
        case measure => simp [intOf]; omega
      by_cases m3 : q[k] = 111
      · have hm : ((bs q)[k].toNat : Int) = 111 := by show ((q[k]).toNat : Int) = _; rw [m3]; rfl
        go_wp2
        go_roundw
        case rel =>
          refine ⟨k + 1, by omega, by go_num, ?_, ?_, HBEL.out.setCell (by simp) _⟩
          · rw [Below.heap_setCell _ _ _ _ (by simp)]; exact HB0.out
          · rw [block_setCell _ HB1.out, HSC.out, HGU.out, m3]; rfl
        case measure => simp [intOf]; omega
      by_cases m4 : q[k] = 102
      · have hm : ((bs q)[k].toNat : Int) = 102 := by show ((q[k]).toNat : Int) = _; rw [m4]; rfl
        go_wp2
        go_roundw
        case rel =>
          refine ⟨k + 1, by omega, by go_num, ?_, ?_, HBEL.out.setCell (by simp) _⟩
          · rw [Below.heap_setCell _ _ _ _ (by simp)]; exact HB0.out
          · rw [block_setCell _ HB1.out, HSC.out, HGU.out, m4]; rfl
        case measure => simp [intOf]; omega
      have g1 : ((bs q)[k].toNat : Int) ≠ 120 := by show ((q[k]).toNat : Int) ≠ _; have := u8_ne (n := 120) (by decide) m1; omega
      have g2 : ((bs q)[k].toNat : Int) ≠ 121 := by show ((q[k]).toNat : Int) ≠ _; have := u8_ne (n := 121) (by decide) m2; omega
      have g3 : ((bs q)[k].toNat : Int) ≠ 111 := by show ((q[k]).toNat : Int) ≠ _; have := u8_ne (n := 111) (by decide) m3; omega
      have g4 : ((bs q)[k].toNat : Int) ≠ 102 := by show ((q[k]).toNat : Int) ≠ _; have := u8_ne (n := 102) (by decide) m4; omega
      have b1 := beq_eq_false_iff_ne.2 g1
      have b2 := beq_eq_false_iff_ne.2 g2
      have b3 := beq_eq_false_iff_ne.2 g3
      have b4 := beq_eq_false_iff_ne.2 g4
      clear g1 g2 g3 g4
      have HST : Hid (Al.fillStep q[k] u[k] (kk, x, y, o, f) = (kk, x, y, o, f)) := by rw [Hid, Al.fillStep, if_neg m1, if_neg m2, if_neg m3, if_neg m4]
      clear m1 m2 m3 m4
      go_wp2
      go_roundw
      case rel =>
        refine ⟨k + 1, by omega, by go_num, HB0.out, ?_, HBEL.out⟩
        rw [HSC.out, HST.out]; exact HB1.out
      case measure => simp [intOf]; omega
    · have hd : decide ((k : Int) < (q.length : Int)) = false := by simp; omega
      have HT : Hid (Al.fillSt (q.take k) u (kd, 0, 0, 0, 0) = S0) := by rw [Hid, HM.out, List.take_of_length_le (by omega)]
      rw [HT.out] at hb1
      obtain ⟨kk, x, y, o, f⟩ := S0
      have c0 := block_cell (j := 0) hb1
      have c1 := block_cell (j := 1) hb1
      have c2 := block_cell (j := 2) hb1
      have c3 := block_cell (j := 3) hb1
      have c4 := block_cell (j := 4) hb1
      have d0 := block_cell (j := 0) hb0
      have d1 := block_cell (j := 1) hb0
      have d2 := block_cell (j := 2) hb0
      have d3 := block_cell (j := 3) hb0
      have d4 := block_cell (j := 4) hb0
      have f0 := block_free (j := 0) hb0
      have f1 := block_free (j := 1) hb0
      have f2 := block_free (j := 2) hb0
      have f3 := block_free (j := 3) hb0
      have f4 := block_free (j := 4) hb0
      simp only [stA, List.getElem?_toArray, List.getElem?_cons_zero, List.getElem?_cons_succ] at c0 c1 c2 c3 c4 d0 d1 d2 d3 d4
      have HW : Hid ((((((wr.setCell ⟨w.heap.size, 0, none⟩ (.int .i64 ↑kk)).setCell ⟨w.heap.size, 1, none⟩ (.int .u8 ↑x.toNat)).setCell ⟨w.heap.size, 2, none⟩ (.int .u8 ↑y.toNat)).setCell ⟨w.heap.size, 3, none⟩ (.int .u8 ↑o.toNat)).setCell ⟨w.heap.size, 4, none⟩ (.int .u8 ↑f.toNat)).heap[w.heap.size]? = some (.cells (stA (kk, x, y, o, f)) 72 (0, 0)) ∧
          Below w.heap.size w (((((wr.setCell ⟨w.heap.size, 0, none⟩ (.int .i64 ↑kk)).setCell ⟨w.heap.size, 1, none⟩ (.int .u8 ↑x.toNat)).setCell ⟨w.heap.size, 2, none⟩ (.int .u8 ↑y.toNat)).setCell ⟨w.heap.size, 3, none⟩ (.int .u8 ↑o.toNat)).setCell ⟨w.heap.size, 4, none⟩ (.int .u8 ↑f.toNat))) :=
        ⟨block_setCell _ (block_setCell _ (block_setCell _ (block_setCell _ (block_setCell _ hb0)))), ((((hbel.setCell (Nat.le_refl _) _).setCell (Nat.le_refl _) _).setCell (Nat.le_refl _) _).setCell (Nat.le_refl _) _).setCell (Nat.le_refl _) _⟩
      clear hb0 hb1 hbel
      go_wp2
      clear c0 c1 c2 c3 c4 d0 d1 d2 d3 d4 f0 f1 f2 f3 f4
      generalize ((((wr.setCell ⟨w.heap.size, 0, none⟩ (.int .i64 ↑kk)).setCell ⟨w.heap.size, 1, none⟩ (.int .u8 ↑x.toNat)).setCell ⟨w.heap.size, 2, none⟩ (.int .u8 ↑y.toNat)).setCell ⟨w.heap.size, 3, none⟩ (.int .u8 ↑o.toNat)).setCell ⟨w.heap.size, 4, none⟩ (.int .u8 ↑f.toNat) = W at *
      obtain ⟨hW, hbelW⟩ := HW.out
      have c0 := block_cell (j := 0) hW
      have c1 := block_cell (j := 1) hW
      have c2 := block_cell (j := 2) hW
      have c3 := block_cell (j := 3) hW
      have c4 := block_cell (j := 4) hW
      simp only [stA, List.getElem?_toArray, List.getElem?_cons_zero, List.getElem?_cons_succ] at c0 c1 c2 c3 c4
      exact bodyPost_ret (v := .agg (stA (kk, x, y, o, f))) (by simp [results, Try.results94, go_sem, stA, c0, c1, c2, c3, c4]) rfl ⟨rfl, hbelW⟩
end Go.Proofs.Ytljafkdaljkanaa
