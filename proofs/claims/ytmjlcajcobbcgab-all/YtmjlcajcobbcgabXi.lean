import Derived.Test.YtmjlcajcobbcgabXh
import Derived.Laws.StructEq
import Derived.Test.YtmjlcajcobbcgabXd
namespace Go.Proofs.Ytmjlcajcobbcgab
open Go.RowKit
theorem run_equalIn_array {P : Program} (w : World) (d : Nat) (t : TypeId) (len : Nat) (elem : TypeId) (xs ys : Array Value) (ht : P.underlying t = some (.array len elem)) (hz : ∀ w, (sizeOf elem).run P w = .ok 1 w)
    (B : Nat → Bool) (hB : ∀ i, i < len → ∃ a b, (part elem xs (i * 1)).run P w = .ok a w ∧ (part elem ys (i * 1)).run P w = .ok b w ∧ (Op.equalIn d elem a b).run P w = .ok (B i) w) :
    (Op.equalIn (d + 1) t (.agg xs) (.agg ys)).run P w = .ok ((List.range len).all B) w := by
  simp only [Op.equalIn, Sem.run_bind, run_underlying ht, Result.andThen_ok, hz]
  rw [Std.Legacy.Range.forIn_eq_forIn_range', Std.Legacy.Range.size]
  simp only [Nat.sub_zero, Nat.add_sub_cancel, Nat.div_one, List.range_eq_range']
  have hB' : ∀ i ∈ List.range' 0 len, ∃ a b, (part elem xs (i * 1)).run P w = .ok a w ∧ (part elem ys (i * 1)).run P w = .ok b w ∧ (Op.equalIn d elem a b).run P w = .ok (B i) w := fun i hi => hB i (by simpa using hi)
  generalize List.range' 0 len = L at *
  clear hB ht
  induction L with
  | nil => simp
  | cons i L ih =>
    obtain ⟨a, b, h1, h2, h3⟩ := hB' i (by simp)
    have ih' := ih fun j hj => hB' j (by simp [hj])
    simp only [List.forIn_cons, Sem.run_bind, h1, h2, h3, Result.andThen_ok, List.all_cons]
    cases hb : B i with
    | true => simpa [hb] using ih'
    | false => simp
theorem tb_guard : Try.prog.eqGuardType Try.prog.depth 75 = false := by kernel_rfl
theorem tb_fields : Try.prog.underlying 75 = some (.struct (Try.prog.fieldsOf 75)) := by kernel_rfl
theorem tb_held : Try.prog.stoodInHeld 75 = false := by kernel_rfl
def sameB (R Q : Al.Rw) : Bool := (List.range 12).all fun v => (R v : Int) == (Q v : Int)
theorem sameB_iff (R Q : Al.Rw) : sameB R Q = true ↔ Al.SameR R Q := by
  unfold sameB Al.SameR
  rw [List.all_eq_true]
  exact ⟨fun h v hv => by have := h v (by simpa using hv); rw [beq_iff_eq] at this; omega, fun h v hv => by rw [beq_iff_eq, h v (by simpa using hv)]⟩
theorem part_tab (R : Al.Rw) (i : Nat) (hi : i < 12) (w : World) : (part 72 (tabA R) (i * 1)).run Try.prog w = .ok (.int .i64 (R i : Nat)) w := by
  have a3 := Try.isAgg72
  have z3 := Try.sizeOf72
  have hg := tabA_get R i hi
  rw [Nat.mul_one]
  go_simp
set_option maxRecDepth 100000 in
theorem run_eql_tab (R Q : Al.Rw) (w : World) : (binOp .eql 75 (.agg (tabA R)) (.agg (tabA Q))).run Try.prog w = .ok (.bool (sameB R Q)) w := by
  rw [run_eql_struct, show (10000 : Nat) = 9999 + 1 from rfl, run_equalIn_agg w 9999 75 _ _ tb_fields tb_held]
  have h := run_equalIn_array (P := Try.prog) w 9998 73 12 72 (tabA R) (tabA Q) Try.underlying73 Try.sizeOf72 (fun v => (R v : Int) == (Q v : Int)) (fun i hi => ⟨_, _, part_tab R i hi w, part_tab Q i hi w, run_equalIn_int w 9997 72 .i64 .i64 _ _ Try.underlying72⟩)
  have a5 := Try.isAgg73
  have z5 := Try.sizeOf73
  unfold tabA at h ⊢
  simp only [Program.fieldsOf, Try.underlying75]
  go_simp
  have e : sameB R Q = ((R 0 : Int) == (Q 0 : Int) && ((R 1 : Int) == (Q 1 : Int) && ((R 2 : Int) == (Q 2 : Int) && ((R 3 : Int) == (Q 3 : Int) && ((R 4 : Int) == (Q 4 : Int) && ((R 5 : Int) == (Q 5 : Int) && ((R 6 : Int) == (Q 6 : Int) && ((R 7 : Int) == (Q 7 : Int) && ((R 8 : Int) == (Q 8 : Int) && ((R 9 : Int) == (Q 9 : Int) && ((R 10 : Int) == (Q 10 : Int) && ((R 11 : Int) == (Q 11 : Int))))))))))))) := by simp [sameB, List.range, List.range.loop]
  rw [← e]
  cases sameB R Q <;> simp
end Go.Proofs.Ytmjlcajcobbcgab

namespace Go.Proofs.Ytmjlcajcobbcgab
open Go.RowKit

/-- The world behind the store of a table into a block. -/
def storedT (w : World) (b : Nat) (R : Al.Rw) : World := ((((((((((((w.setCell ⟨b, 0, none⟩ (.int .i64 ↑(R 0))).setCell ⟨b, 1, none⟩ (.int .i64 ↑(R 1))).setCell ⟨b, 2, none⟩ (.int .i64 ↑(R 2))).setCell ⟨b, 3, none⟩ (.int .i64 ↑(R 3))).setCell ⟨b, 4, none⟩ (.int .i64 ↑(R 4))).setCell ⟨b, 5, none⟩ (.int .i64 ↑(R 5))).setCell ⟨b, 6, none⟩ (.int .i64 ↑(R 6))).setCell ⟨b, 7, none⟩ (.int .i64 ↑(R 7))).setCell ⟨b, 8, none⟩ (.int .i64 ↑(R 8))).setCell ⟨b, 9, none⟩ (.int .i64 ↑(R 9))).setCell ⟨b, 10, none⟩ (.int .i64 ↑(R 10))).setCell ⟨b, 11, none⟩ (.int .i64 ↑(R 11)))
theorem storedT_eq (w : World) (b : Nat) (R : Al.Rw) : ((((((((((((w.setCell ⟨b, 0, none⟩ (.int .i64 ↑(R 0))).setCell ⟨b, 1, none⟩ (.int .i64 ↑(R 1))).setCell ⟨b, 2, none⟩ (.int .i64 ↑(R 2))).setCell ⟨b, 3, none⟩ (.int .i64 ↑(R 3))).setCell ⟨b, 4, none⟩ (.int .i64 ↑(R 4))).setCell ⟨b, 5, none⟩ (.int .i64 ↑(R 5))).setCell ⟨b, 6, none⟩ (.int .i64 ↑(R 6))).setCell ⟨b, 7, none⟩ (.int .i64 ↑(R 7))).setCell ⟨b, 8, none⟩ (.int .i64 ↑(R 8))).setCell ⟨b, 9, none⟩ (.int .i64 ↑(R 9))).setCell ⟨b, 10, none⟩ (.int .i64 ↑(R 10))).setCell ⟨b, 11, none⟩ (.int .i64 ↑(R 11))) = storedT w b R := rfl
theorem sets_tab (Q R : Al.Rw) : (((((((((((((tabA Q).setIfInBounds 0 (.int .i64 ↑(R 0))).setIfInBounds 1 (.int .i64 ↑(R 1))).setIfInBounds 2 (.int .i64 ↑(R 2))).setIfInBounds 3 (.int .i64 ↑(R 3))).setIfInBounds 4 (.int .i64 ↑(R 4))).setIfInBounds 5 (.int .i64 ↑(R 5))).setIfInBounds 6 (.int .i64 ↑(R 6))).setIfInBounds 7 (.int .i64 ↑(R 7))).setIfInBounds 8 (.int .i64 ↑(R 8))).setIfInBounds 9 (.int .i64 ↑(R 9))).setIfInBounds 10 (.int .i64 ↑(R 10))).setIfInBounds 11 (.int .i64 ↑(R 11))) = tabA R := by simp [tabA]
theorem storedT_block {w : World} {b : Nat} {R Q : Al.Rw} (h : w.heap[b]? = some (.cells (tabA Q) 75 (0, 0))) : (storedT w b R).heap[b]? = some (.cells (tabA R) 75 (0, 0)) := by
  have h1 := block_setCell (j := 0) (.int .i64 ↑(R 0)) h
  have h2 := block_setCell (j := 1) (.int .i64 ↑(R 1)) h1
  have h3 := block_setCell (j := 2) (.int .i64 ↑(R 2)) h2
  have h4 := block_setCell (j := 3) (.int .i64 ↑(R 3)) h3
  have h5 := block_setCell (j := 4) (.int .i64 ↑(R 4)) h4
  have h6 := block_setCell (j := 5) (.int .i64 ↑(R 5)) h5
  have h7 := block_setCell (j := 6) (.int .i64 ↑(R 6)) h6
  have h8 := block_setCell (j := 7) (.int .i64 ↑(R 7)) h7
  have h9 := block_setCell (j := 8) (.int .i64 ↑(R 8)) h8
  have h10 := block_setCell (j := 9) (.int .i64 ↑(R 9)) h9
  have h11 := block_setCell (j := 10) (.int .i64 ↑(R 10)) h10
  have h12 := block_setCell (j := 11) (.int .i64 ↑(R 11)) h11
  rw [sets_tab] at h12
  exact h12
theorem storedT_grown (w : World) (b : Nat) (R : Al.Rw) : w.grownBy (storedT w b R) (some b) := (grown_setCell (grown_setCell (grown_setCell (grown_setCell (grown_setCell (grown_setCell (grown_setCell (grown_setCell (grown_setCell (grown_setCell (grown_setCell (grown_setCell (grown_refl _ _)))))))))))))
theorem storedT_below {w0 w : World} {B b : Nat} {R : Al.Rw} (h : Below B w0 w) (hb : B ≤ b) : Below B w0 (storedT w b R) :=
  ((((((((((((h).setCell hb _).setCell hb _).setCell hb _).setCell hb _).setCell hb _).setCell hb _).setCell hb _).setCell hb _).setCell hb _).setCell hb _).setCell hb _).setCell hb _
theorem storedT_size (w : World) (b : Nat) (R : Al.Rw) : (storedT w b R).heap.size = w.heap.size := by simp [storedT, World.setCell]
theorem tab_free {w : World} {b : Nat} {S : Array Value} (h : w.heap[b]? = some (.cells S 75 (0, 0))) : w.frozen? ⟨b, 0, none⟩ = false ∧ w.frozen? ⟨b, 1, none⟩ = false ∧ w.frozen? ⟨b, 2, none⟩ = false ∧ w.frozen? ⟨b, 3, none⟩ = false ∧ w.frozen? ⟨b, 4, none⟩ = false ∧ w.frozen? ⟨b, 5, none⟩ = false ∧ w.frozen? ⟨b, 6, none⟩ = false ∧ w.frozen? ⟨b, 7, none⟩ = false ∧ w.frozen? ⟨b, 8, none⟩ = false ∧ w.frozen? ⟨b, 9, none⟩ = false ∧ w.frozen? ⟨b, 10, none⟩ = false ∧ w.frozen? ⟨b, 11, none⟩ = false :=
  ⟨block_free h, block_free h, block_free h, block_free h, block_free h, block_free h, block_free h, block_free h, block_free h, block_free h, block_free h, block_free h⟩
theorem round_succ {A : List Al.St} {f : List UInt8} {R : Al.Rw} {k : Nat} (h : k < A.length) : (A.take (k + 1)).foldl (Al.stepR A f) R = Al.stepR A f ((A.take k).foldl (Al.stepR A f) R) A[k] := by
  rw [List.take_succ_eq_append_getElem h, List.foldl_append]; rfl

/-- The rows of the table in a block. -/
def rowsIn (w : World) (b : Nat) : Al.Rw := fun v => match w.cell? ⟨b, v, none⟩ with
  | some (.int _ n) => n.toNat
  | _ => 0
theorem rowsIn_tab {w : World} {b : Nat} {R : Al.Rw} (h : w.heap[b]? = some (.cells (tabA R) 75 (0, 0))) : Al.tbOf (rowsIn w b) = Al.tbOf R := by
  funext v o
  unfold Al.tbOf
  by_cases hv : v < 12
  · have : rowsIn w b v = R v := by unfold rowsIn; rw [tab_cells h v hv]; simp
    rw [this]
  · simp [hv]
structure Boxes (w wr : World) (b : Nat) (R Q : Al.Rw) : Prop where
  res : wr.heap[w.heap.size]? = some (.cells (tabA Al.zeroR) 75 (0, 0))
  tab : wr.heap[w.heap.size + 1]? = some (.cells (tabA Q) 75 (0, 0))
  bef : wr.heap[b]? = some (.cells (tabA R) 75 (0, 0))
  bel : Below w.heap.size w wr
  ge : w.heap.size + 2 ≤ b
theorem Boxes.below {w wr w' : World} {b : Nat} {R Q : Al.Rw} (h : Boxes w wr b R Q) (hb : Below wr.heap.size wr w') : Boxes w w' b R Q :=
  ⟨by rw [hb.block _ (lt_of_block h.res)]; exact h.res, by rw [hb.block _ (lt_of_block h.tab)]; exact h.tab, by rw [hb.block _ (lt_of_block h.bef)]; exact h.bef, h.bel.trans (hb.mono h.bel.size), h.ge⟩
theorem Boxes.stored {w wr : World} {b : Nat} {R Q : Al.Rw} (h : Boxes w wr b R Q) (N : Al.Rw) : Boxes w (storedT wr (w.heap.size + 1) N) b R N :=
  ⟨by rw [(storedT_grown wr _ N).block _ (lt_of_block h.res) (by simp)]; exact h.res, storedT_block h.tab, by rw [(storedT_grown wr _ N).block _ (lt_of_block h.bef) (by have := h.ge; simp; omega)]; exact h.bef, storedT_below h.bel (by omega), h.ge⟩

set_option maxRecDepth 100000 in
set_option maxHeartbeats 4000000 in
theorem least_some (A : List Al.St) (f : List UInt8) (g cap : Nat) (w : World) (hA : ∀ a ∈ A, Al.Wf a) (hr : RdA w (.slice (some ⟨g, 0, none⟩) A.length cap) A) (hg : g < w.heap.size)
    (hc : ∀ k (h : k < A.length), w.cell? ⟨g, k * 5, none⟩ = some (.int .i64 (A[k].1 : Nat)) ∧ w.cell? ⟨g, k * 5 + 1, none⟩ = some (.int .u8 (A[k].2.1.toNat : Nat)) ∧ w.cell? ⟨g, k * 5 + 2, none⟩ = some (.int .u8 (A[k].2.2.1.toNat : Nat)) ∧
        w.cell? ⟨g, k * 5 + 3, none⟩ = some (.int .u8 (A[k].2.2.2.1.toNat : Nat)) ∧ w.cell? ⟨g, k * 5 + 4, none⟩ = some (.int .u8 (A[k].2.2.2.2.toNat : Nat)))
    (hs : A.length ≤ 100000) (hf : f.length ≤ 9223372036854775807) :
    Calls Try.prog 37 #[.slice (some ⟨g, 0, none⟩) A.length cap, .string (bs f)] w fun e w' => ∃ R, e = .returned (.agg (tabA R)) ∧ Al.OkR R ∧ Al.IsLeast A f (Al.tbOf R) ∧ Below w.heap.size w w' := by
  have HC := hid hc
  have HA := hid hA
  have HRD := hid hr
  have HAS := hid (fun R s wx (hR : Al.OkR R) (h : RdA wx (.slice (some ⟨g, 0, none⟩) A.length cap) A) => asked_any A R s f _ wx h hs hR hf)
  clear hc hA hr hf
  have HPL := hid (fun R (c : UInt8) m wx (hR : Al.OkR R) (hm : m < 4096) => plus_any R c.toNat m wx (by have := c.toNat_lt; omega) hR hm)
  go_enter Try.func37, Try.ntmps37
  go_wp2_with fail
  obtain ⟨hn0, hn1, hbw0, hsz0⟩ : ((w.alloc (.cells (tabA Al.zeroR) 75)).alloc (.cells (tabA Al.zeroR) 75)).heap[w.heap.size]? = some (.cells (tabA Al.zeroR) 75 (0, 0)) ∧ ((w.alloc (.cells (tabA Al.zeroR) 75)).alloc (.cells (tabA Al.zeroR) 75)).heap[w.heap.size + 1]? = some (.cells (tabA Al.zeroR) 75 (0, 0)) ∧ Below w.heap.size w ((w.alloc (.cells (tabA Al.zeroR) 75)).alloc (.cells (tabA Al.zeroR) 75)) ∧ True :=
    ⟨by rw [Below.heap_alloc _ _ _ (by simp)]; exact heap_alloc_new w _, heap2 w _ _, ((Below.refl _ _).alloc (Nat.le_refl _) _).alloc (by simp) _, trivial⟩
  have HZ : Hid (tabA Al.zeroR = #[.int .i64 0, .int .i64 0, .int .i64 0, .int .i64 0, .int .i64 0, .int .i64 0, .int .i64 0, .int .i64 0, .int .i64 0, .int .i64 0, .int .i64 0, .int .i64 0]) := rfl
  rw [HZ.out] at hn0 hn1 hbw0
  go_loopw [] (fun wr => ∃ R, Al.GoR A f R ∧ wr.heap[w.heap.size]? = some (.cells (tabA Al.zeroR) 75 (0, 0)) ∧ wr.heap[w.heap.size + 1]? = some (.cells (tabA R) 75 (0, 0)) ∧ Below w.heap.size w wr) (fun wr => 144 - Al.cnt (Al.tbOf (rowsIn wr (w.heap.size + 1))))
  case atStart => exact ⟨Al.zeroR, Al.goR_zero A f, hn0, hn1, hbw0⟩
  case round =>
    clear hn0 hn1 hbw0
    obtain ⟨R, hgo, hz, ht, hbel⟩ := hrel
    have HME := hid (rowsIn_tab ht)
    have HGO := hid hgo
    have HZR := hid hz
    have HTB := hid ht
    have hl1 := lt_of_block ht
    obtain ⟨t0, t1, t2, t3, t4, t5, t6, t7, t8, t9, t10, t11⟩ := tab12 ht
    have HBL := hid hbel
    clear hgo hz ht hbel
    go_wp2_with fail
    have hbx : Boxes w (wr.alloc (.cells (tabA R) 75)) wr.heap.size R R :=
      ⟨by rw [Below.heap_alloc _ _ _ (lt_of_block HZR.out)]; exact HZR.out, by rw [Below.heap_alloc _ _ _ hl1]; exact HTB.out, heap_alloc_new wr _, HBL.out.alloc HBL.out.size _, hl1⟩
    simp only [show tabA R = #[.int .i64 ↑(R 0), .int .i64 ↑(R 1), .int .i64 ↑(R 2), .int .i64 ↑(R 3), .int .i64 ↑(R 4), .int .i64 ↑(R 5), .int .i64 ↑(R 6), .int .i64 ↑(R 7), .int .i64 ↑(R 8), .int .i64 ↑(R 9), .int .i64 ↑(R 10), .int .i64 ↑(R 11)] from rfl] at hbx
    generalize wr.alloc (.cells #[.int .i64 ↑(R 0), .int .i64 ↑(R 1), .int .i64 ↑(R 2), .int .i64 ↑(R 3), .int .i64 ↑(R 4), .int .i64 ↑(R 5), .int .i64 ↑(R 6), .int .i64 ↑(R 7), .int .i64 ↑(R 8), .int .i64 ↑(R 9), .int .i64 ↑(R 10), .int .i64 ↑(R 11)] 75) = W1 at *
    generalize wr.heap.size = b6 at *
    clear t0 t1 t2 t3 t4 t5 t6 t7 t8 t9 t10 t11
    go_loopw [13] (fun i wr => ∃ k : Nat, k ≤ A.length ∧ i = .int .i64 k ∧ Boxes w wr b6 R ((A.take k).foldl (Al.stepR A f) R)) (fun i _ => A.length - (intOf i).toNat)
    case atStart => exact ⟨0, Nat.zero_le _, rfl, hbx⟩
    case round =>
      clear hbx
      obtain ⟨k, hk, rfl, hbx⟩ := hrel
      by_cases hlt : k < A.length
      · have HFS := hid (round_succ (f := f) (R := R) hlt)
        have hok := Al.foldR_ok A f (A.take k) HGO.out.1
        generalize (A.take k).foldl (Al.stepR A f) R = Q at *
        obtain ⟨c0, c1, c2, c3, c4⟩ := HC.out k hlt
        generalize A[k] = a at *
        have HST : Hid (Al.stepR A f Q a = Al.plusR Q a.2.1.toNat (Al.askedR A f Q a)) := rfl
        have hak := Al.askedR_ok A f hok a
        have HA1 := hid (fun wx => HAS.out Q a wx hok)
        generalize Al.askedR A f Q a = M at *
        obtain ⟨ak, ax, ay, ao, af⟩ := a
        have d0 := cell_below hbx.bel c0 hg
        have d1 := cell_below hbx.bel c1 hg
        have d2 := cell_below hbx.bel c2 hg
        have d3 := cell_below hbx.bel c3 hg
        have d4 := cell_below hbx.bel c4 hg
        simp only at d0 d1 d2 d3 d4 HST
        obtain ⟨t0, t1, t2, t3, t4, t5, t6, t7, t8, t9, t10, t11⟩ := tab12 hbx.tab
        have hl2 := lt_of_block hbx.tab
        have HBX := hid hbx
        have HOK := hid hok
        simp only [tabA, stA] at HA1
        clear c0 c1 c2 c3 c4 hbx hok
        go_wp2_with fail
        have hnew := heap_alloc_new wr (.cells (stA (ak, ax, ay, ao, af)) 93)
        have hbx2 := HBX.out.below ((Below.refl _ wr).alloc (Nat.le_refl _) (.cells (stA (ak, ax, ay, ao, af)) 93))
        simp only [stA] at hnew hbx2
        generalize wr.alloc (.cells #[.int .i64 ↑ak, .int .u8 ↑ax.toNat, .int .u8 ↑ay.toNat, .int .u8 ↑ao.toNat, .int .u8 ↑af.toNat] 93) = W2 at *
        refine (HA1.out _ (HRD.out.below hbx2.bel)).mono ?_
        rintro e w3 ⟨rfl, hb3⟩
        have hbx3 := hbx2.below hb3
        have y1 : w3.cell? ⟨wr.heap.size, 1, none⟩ = some (.int .u8 ↑ax.toNat) := cell_below hb3 (block_cell (j := 1) hnew) (lt_of_block hnew)
        clear t0 t1 t2 t3 t4 t5 t6 t7 t8 t9 t10 t11 d0 d1 d2 d3 d4 hl2
        obtain ⟨t0, t1, t2, t3, t4, t5, t6, t7, t8, t9, t10, t11⟩ := tab12 hbx3.tab
        have HBX3 := hid hbx3
        have HP1 := hid (fun wx => HPL.out Q ax M wx HOK.out hak)
        simp only [tabA] at HP1
        clear hnew hb3 hbx2 hbx3
        go_wp2_with fail
        refine (HP1.out _).mono ?_
        rintro e w4 ⟨rfl, hb4⟩
        have hbx4 := HBX3.out.below hb4
        clear t0 t1 t2 t3 t4 t5 t6 t7 t8 t9 t10 t11 y1
        generalize Al.plusR Q ax.toNat M = N at *
        obtain ⟨t0, t1, t2, t3, t4, t5, t6, t7, t8, t9, t10, t11⟩ := tab12 hbx4.tab
        obtain ⟨f0, f1, f2, f3, f4, f5, f6, f7, f8, f9, f10, f11⟩ := tab_free hbx4.tab
        have HB5 := hid (hbx4.stored N)
        clear hb4 hbx4
        go_wp2_with fail
        exact ⟨⟨k + 1, by omega, by go_num, by rw [HFS.out, HST.out]; exact HB5.out⟩, by simp [intOf]; omega⟩
      · rw [List.take_of_length_le (by omega)] at hbx
        have HRO : Hid (A.foldl (Al.stepR A f) R = Al.roundR A f R) := rfl
        rw [HRO.out] at hbx
        have HG2 := hid (Al.goR_succ HA.out HGO.out)
        have HMO := hid (Al.goR_more HA.out HGO.out)
        have HEN := hid (Al.goR_end HA.out HGO.out)
        generalize Al.roundR A f R = Q at *
        obtain ⟨t0, t1, t2, t3, t4, t5, t6, t7, t8, t9, t10, t11⟩ := tab12 hbx.tab
        obtain ⟨b0, b1, b2, b3, b4, b5, b6, b7, b8, b9, b10, b11⟩ := tab12 hbx.bef
        have hgu := tb_guard
        have hql := run_eql_tab Q R
        have hsb := sameB_iff Q R
        simp only [tabA] at hql
        have hd : decide ((k : Int) < (A.length : Int)) = false := by simp; omega
        cases hsm : sameB Q R with
        | false =>
          have HNS : Hid (¬ Al.SameR Q R) := fun h => by rw [hsb.2 h] at hsm; cases hsm
          rw [hsm] at hql
          have HBX := hid hbx
          clear hsm hsb hbx
          go_wp2_with fail
          refine ⟨⟨Q, HG2.out, HBX.out.res, HBX.out.tab, HBX.out.bel⟩, ?_⟩
          rw [HME.out, rowsIn_tab HBX.out.tab]
          have h1 := HMO.out HNS.out
          have h2 := Al.cnt_le (Al.tbOf Q)
          omega
        | true =>
          have HSM : Hid (Al.SameR Q R) := hsb.1 hsm
          rw [hsm] at hql
          obtain ⟨z0, z1, z2, z3, z4, z5, z6, z7, z8, z9, z10, z11⟩ := tab12 hbx.res
          obtain ⟨f0, f1, f2, f3, f4, f5, f6, f7, f8, f9, f10, f11⟩ := tab_free hbx.res
          have HS1 := hid (storedT_block (R := Q) hbx.res)
          have HS2 := hid (storedT_below (R := Q) hbx.bel (Nat.le_refl _))
          have hl9 := lt_of_block hbx.tab
          clear hsm hsb hbx
          go_wp2_with fail
          rw [storedT_eq]
          generalize storedT wr w.heap.size Q = W9 at *
          clear t0 t1 t2 t3 t4 t5 t6 t7 t8 t9 t10 t11 b0 b1 b2 b3 b4 b5 b6 b7 b8 b9 b10 b11 z0 z1 z2 z3 z4 z5 z6 z7 z8 z9 z10 z11 f0 f1 f2 f3 f4 f5 f6 f7 f8 f9 f10 f11
          obtain ⟨t0, t1, t2, t3, t4, t5, t6, t7, t8, t9, t10, t11⟩ := tab12 HS1.out
          exact bodyPost_ret (v := .agg #[.int .i64 ↑(Q 0), .int .i64 ↑(Q 1), .int .i64 ↑(Q 2), .int .i64 ↑(Q 3), .int .i64 ↑(Q 4), .int .i64 ↑(Q 5), .int .i64 ↑(Q 6), .int .i64 ↑(Q 7), .int .i64 ↑(Q 8), .int .i64 ↑(Q 9), .int .i64 ↑(Q 10), .int .i64 ↑(Q 11)]) (by simp [results, Try.results37, go_sem, t0, t1, t2, t3, t4, t5, t6, t7, t8, t9, t10, t11]) rfl ⟨Q, rfl, HG2.out.1, Al.isLeast_same HA.out (HEN.out HSM.out) (fun v hv => (HSM.out v hv).symm), HS2.out⟩
end Go.Proofs.Ytmjlcajcobbcgab

namespace Go.Proofs.Ytmjlcajcobbcgab
open Go.RowKit

set_option maxRecDepth 100000 in
set_option maxHeartbeats 1000000 in
theorem least_nil (f : List UInt8) (w : World) :
    Calls Try.prog 37 #[.slice none 0 0, .string (bs f)] w fun e w' => ∃ R, e = .returned (.agg (tabA R)) ∧ Al.OkR R ∧ Al.IsLeast [] f (Al.tbOf R) ∧ Below w.heap.size w w' := by
  have hql := run_eql_tab Al.zeroR Al.zeroR
  have hsb : sameB Al.zeroR Al.zeroR = true := by decide
  have hgu := tb_guard
  rw [hsb] at hql
  simp only [show tabA Al.zeroR = #[.int .i64 0, .int .i64 0, .int .i64 0, .int .i64 0, .int .i64 0, .int .i64 0, .int .i64 0, .int .i64 0, .int .i64 0, .int .i64 0, .int .i64 0, .int .i64 0] from rfl] at hql
  have HE := hid (Al.goR_end (A := []) (f := f) (by simp) (Al.goR_zero [] f) (fun _ _ => rfl))
  clear hsb
  go_enter Try.func37, Try.ntmps37
  go_wp2_with fail
  refine wp_loop_rounds 1 ?_
  rw [rounds_succ]
  go_wp2_with fail
  refine wp_loop_rounds 1 ?_
  rw [rounds_succ]
  go_wp2_with fail
  exact bodyPost_ret (v := .agg #[.int .i64 0, .int .i64 0, .int .i64 0, .int .i64 0, .int .i64 0, .int .i64 0, .int .i64 0, .int .i64 0, .int .i64 0, .int .i64 0, .int .i64 0, .int .i64 0]) (by simp [results, Try.results37, go_sem]) rfl ⟨Al.zeroR, rfl, (Al.goR_zero [] f).1, HE.out, (((Below.refl _ _).alloc (Nat.le_refl _) _).alloc (by simp) _).alloc (by simp; omega) _⟩
/-- The program's table is the least one. -/
theorem leastTable_any (A : List Al.St) (f : List UInt8) (v : Value) (w : World) (hA : ∀ a ∈ A, Al.Wf a) (hr : RdA w v A) (hs : A.length ≤ 100000) (hf : f.length ≤ 9223372036854775807) :
    Calls Try.prog 37 #[v, .string (bs f)] w fun e w' => ∃ R, e = .returned (.agg (tabA R)) ∧ Al.OkR R ∧ (∀ a o, o < 12 → Al.tbOf R a o = Al.leastP A f a o) ∧ Below w.heap.size w w' := by
  have h : Calls Try.prog 37 #[v, .string (bs f)] w fun e w' => ∃ R, e = .returned (.agg (tabA R)) ∧ Al.OkR R ∧ Al.IsLeast A f (Al.tbOf R) ∧ Below w.heap.size w w' := by
    have hr0 := hr
    rcases hr.shape with ⟨rfl, rfl⟩ | ⟨g, cap, rfl, hl, hm, hg, hc⟩
    · exact least_nil f w
    · exact least_some A f g cap w hA hr0 hg hc hs hf
  refine h.mono ?_
  rintro e w' ⟨R, rfl, hR, hl, hb⟩
  exact ⟨R, rfl, hR, fun a o ho => Al.least_eq (Al.varsOk_of_wf hA) hl a o ho, hb⟩
end Go.Proofs.Ytmjlcajcobbcgab
