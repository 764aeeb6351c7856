import Derived.Test.YtmjlcajcobbcgaaXza
namespace Go.Proofs.Ytmjlcajcobbcgaa
open Go.RowKit

/-- The boxes of nextStep: the table, the result. -/
structure Bn2 (w W : World) (R : Al.Rw) : Prop where
  tab : W.heap[w.heap.size]? = some (.cells (tabA R) 76 (0, 0))
  res : W.heap[w.heap.size + 1]? = some (.cells (spA ((0, 0, 0, 0, 0), 0, (0, 0, 0, 0, 0), 0)) 113 (0, 0))
  bel : Below w.heap.size w W
theorem Bn2.below {w W w2 : World} {R : Al.Rw} (h : Bn2 w W R) (hb : Below W.heap.size W w2) : Bn2 w w2 R :=
  ⟨by rw [hb.block _ (lt_of_block h.tab)]; exact h.tab, by rw [hb.block _ (lt_of_block h.res)]; exact h.res, h.bel.trans (hb.mono h.bel.size)⟩
theorem Bn2.alloc {w W : World} {R : Al.Rw} (h : Bn2 w W R) (O : Obj) : Bn2 w (W.alloc O) R := h.below ((Below.refl _ _).alloc (Nat.le_refl _) _)
theorem bn2_start (w : World) (R : Al.Rw) : Bn2 w ((w.alloc (.cells (tabA R) 76)).alloc (.cells (spA ((0, 0, 0, 0, 0), 0, (0, 0, 0, 0, 0), 0)) 113)) R :=
  ⟨by rw [Below.heap_alloc _ _ _ (by simp)]; exact heap_alloc_new w _, heap2 w _ _, ((Below.refl _ _).alloc (Nat.le_refl _) _).alloc (by simp) _⟩

/-- What nextStep answers. -/
def NextAns (A : List Al.St) (R : Al.Rw) (e : Ending) : Prop := ∃ sp b, e = .returned (.tuple #[.agg (spA sp), .bool b]) ∧ (b = true → sp.1 ∈ A ∧ Al.oB sp.2.1.toNat = true ∧ Al.hasR R sp.1.2.1.toNat sp.2.1.toNat = false ∧ Al.StandsR A R sp) ∧
  (b = false → ∀ st ∈ A, ∀ o : UInt8, Al.oB o.toNat = true → Al.hasR R st.2.1.toNat o.toNat = false → Al.NoneR A R st o)

set_option maxRecDepth 100000 in
set_option maxHeartbeats 4000000 in
theorem next_some (A : List Al.St) (R : Al.Rw) (g cap : Nat) (w : World) (hr : RdA w (.slice (some ⟨g, 0, none⟩) A.length cap) A) (hg : g < w.heap.size) (hc : ∀ k (h : k < A.length), w.cell? ⟨g, k * 5, none⟩ = some (.int .i64 (A[k].1 : Nat)) ∧ w.cell? ⟨g, k * 5 + 1, none⟩ = some (.int .u8 (A[k].2.1.toNat : Nat)) ∧ w.cell? ⟨g, k * 5 + 2, none⟩ = some (.int .u8 (A[k].2.2.1.toNat : Nat)) ∧
        w.cell? ⟨g, k * 5 + 3, none⟩ = some (.int .u8 (A[k].2.2.2.1.toNat : Nat)) ∧ w.cell? ⟨g, k * 5 + 4, none⟩ = some (.int .u8 (A[k].2.2.2.2.toNat : Nat)))
    (hs : A.length ≤ 100000) (hR : Al.OkR R) :
    Calls Try.prog 100 #[.agg (tabA R), .slice (some ⟨g, 0, none⟩) A.length cap] w fun e w' => NextAns A R e ∧ Below w.heap.size w w' := by
  have HC := hid hc
  have HRD := hid hr
  have HHA := hid (fun (c d : Nat) (hc : c ≤ 255) (hd : d ≤ 255) wx => has_any R c d wx hc hd hR)
  have HSB := hid (fun (st : Al.St) (o : UInt8) wx (h : RdA wx (.slice (some ⟨g, 0, none⟩) A.length cap) A) => stepBy_any A R st o _ wx h hs hR)
  have HMEM : Hid (∀ k (h : k < A.length), A[k] ∈ A) := fun k h => List.getElem_mem h
  have HMT : Hid (∀ k (h : k < A.length) s, s ∈ A.take (k + 1) → s ∈ A.take k ∨ s = A[k]) := fun k h s hs => mem_take_succ h hs
  have HB0 := hid (bn2_start w R)
  clear hc hR hr
  simp only [tabA, show spA ((0, 0, 0, 0, 0), 0, (0, 0, 0, 0, 0), 0) = #[.int .i64 0, .int .u8 0, .int .u8 0, .int .u8 0, .int .u8 0, .int .u8 0, .int .i64 0, .int .u8 0, .int .u8 0, .int .u8 0, .int .u8 0, .int .u8 0] from rfl] at HHA HB0 ⊢
  go_enter Try.func100, Try.ntmps100
  go_wp2_with fail
  generalize (w.alloc (.cells #[.int .i64 ↑(R 0), .int .i64 ↑(R 1), .int .i64 ↑(R 2), .int .i64 ↑(R 3), .int .i64 ↑(R 4), .int .i64 ↑(R 5), .int .i64 ↑(R 6), .int .i64 ↑(R 7), .int .i64 ↑(R 8), .int .i64 ↑(R 9), .int .i64 ↑(R 10), .int .i64 ↑(R 11)] 76)).alloc (.cells #[.int .i64 0, .int .u8 0, .int .u8 0, .int .u8 0, .int .u8 0, .int .u8 0, .int .i64 0, .int .u8 0, .int .u8 0, .int .u8 0, .int .u8 0, .int .u8 0] 113) = W0 at *
  go_loopw [13] (fun i wr => ∃ k : Nat, k ≤ A.length ∧ i = .int .i64 k ∧ Bn2 w wr R ∧ (∀ st ∈ A.take k, ∀ o : UInt8, Al.oB o.toNat = true → Al.hasR R st.2.1.toNat o.toNat = false → Al.NoneR A R st o)) (fun i _ => A.length - (intOf i).toNat)
  case atStart => exact ⟨0, Nat.zero_le _, rfl, HB0.out, fun st hst => by simp at hst⟩
  case round =>
    obtain ⟨k, hk, rfl, hbx, hno⟩ := hrel
    have HN := hid hno
    have HBX := hid hbx
    clear hno hbx HB0
    by_cases hlt : k < A.length
    · obtain ⟨c0, c1, c2, c3, c4⟩ := HC.out k hlt
      have HME : Hid (A[k] ∈ A) := HMEM.out k hlt
      have HNX : Hid ((∀ q, q < 12 → Al.hasR R A[k].2.1.toNat (65 + q) = false → Al.NoneR A R A[k] (Al.stB q)) → ∀ st ∈ A.take (k + 1), ∀ o : UInt8, Al.oB o.toNat = true → Al.hasR R st.2.1.toNat o.toNat = false → Al.NoneR A R st o) := fun h st hst o ho hh => by
        rcases HMT.out k hlt st hst with h1 | rfl
        · exact HN.out st h1 o ho hh
        · obtain ⟨q, hq, rfl⟩ := stB_of ho
          exact h q hq (by rw [stB_toNat hq] at hh; exact hh)
      have HS1 := hid (HSB.out A[k])
      generalize A[k] = a at *
      obtain ⟨ak, ax, ay, ao, af⟩ := a
      have d0 := cell_below HBX.out.bel c0 hg
      have d1 := cell_below HBX.out.bel c1 hg
      have d2 := cell_below HBX.out.bel c2 hg
      have d3 := cell_below HBX.out.bel c3 hg
      have d4 := cell_below HBX.out.bel c4 hg
      simp only at d0 d1 d2 d3 d4
      have bx1 : ax.toNat ≤ 255 := by have := ax.toNat_lt; omega
      clear c0 c1 c2 c3 c4
      go_wp2_with fail
      have hnew := heap_alloc_new wr (.cells (stA (ak, ax, ay, ao, af)) 72)
      have hbx2 := HBX.out.alloc (.cells (stA (ak, ax, ay, ao, af)) 72)
      simp only [stA] at hnew hbx2 HS1
      generalize wr.alloc (.cells #[.int .i64 ↑ak, .int .u8 ↑ax.toNat, .int .u8 ↑ay.toNat, .int .u8 ↑ao.toNat, .int .u8 ↑af.toNat] 72) = W2 at *
      generalize wr.heap.size = sb at *
      have HB2 := hid hbx2
      have HS2 : Hid (W2.heap[sb]? = some (.cells (stA (ak, ax, ay, ao, af)) 72 (0, 0))) := hnew
      clear hbx2 hnew d0 d1 d2 d3 d4 HBX
      go_loopw [8] (fun p wr => ∃ j : Nat, j ≤ 12 ∧ p = .int .u8 ((65 + j : Nat) : Int) ∧ Bn2 w wr R ∧ wr.heap[sb]? = some (.cells (stA (ak, ax, ay, ao, af)) 72 (0, 0)) ∧ (∀ q, q < j → Al.hasR R ax.toNat (65 + q) = false → Al.NoneR A R (ak, ax, ay, ao, af) (Al.stB q))) (fun p _ => 77 - (intOf p).toNat)
      case atStart => exact ⟨0, by omega, rfl, HB2.out, HS2.out, fun q hq => by omega⟩
      case round =>
        obtain ⟨j, hj, rfl, hbx, hst, hno⟩ := hrel
        have HNJ := hid hno
        have HBJ := hid hbx
        have HSJ := hid hst
        clear hno hbx hst HB2 HS2
        by_cases hjl : j < 12
        · have bj : 65 + j ≤ 255 := by omega
          have hjq : 65 + j ≤ 76 := by omega
          obtain ⟨s0, s1, s2, s3, s4⟩ := st_cells HSJ.out
          obtain ⟨t0, t1, t2, t3, t4, t5, t6, t7, t8, t9, t10, t11⟩ := tab12 HBJ.out.tab
          have HNS : Hid ((Al.hasR R ax.toNat (65 + j) = false → Al.NoneR A R (ak, ax, ay, ao, af) (Al.stB j)) → ∀ q, q < j + 1 → Al.hasR R ax.toNat (65 + q) = false → Al.NoneR A R (ak, ax, ay, ao, af) (Al.stB q)) := fun h q hq => by
            rcases Nat.lt_succ_iff_lt_or_eq.1 hq with h1 | rfl
            · exact HNJ.out q h1
            · exact h
          have HSJB := hid (HS1.out (Al.stB j))
          rw [stB_toNat hjl] at HSJB
          have HOB := hid (Al.stB_ok hjl).1
          have HTN := hid (stB_toNat hjl)
          go_wp2_with fail
          refine (HHA.out _ _ bx1 bj _).mono ?_
          rintro e w4 ⟨rfl, hb4⟩
          have HB4 := hid (HBJ.out.below hb4)
          have HS4 : Hid (w4.heap[sb]? = some (.cells (stA (ak, ax, ay, ao, af)) 72 (0, 0))) := by rw [Hid, hb4.block _ (lt_of_block HSJ.out)]; exact HSJ.out
          clear t0 t1 t2 t3 t4 t5 t6 t7 t8 t9 t10 t11 s0 s1 s2 s3 s4 hb4
          cases hx : Al.hasR R ax.toNat (65 + j) with
          | true =>
            have HF : Hid (∀ q, q < j + 1 → Al.hasR R ax.toNat (65 + q) = false → Al.NoneR A R (ak, ax, ay, ao, af) (Al.stB q)) := HNS.out (fun h => by rw [hx] at h; cases h)
            clear hx
            go_wp2_with fail
            go_roundw
            case rel => exact ⟨j + 1, by omega, by go_num, HB4.out, HS4.out, HF.out⟩
            case measure => simp [intOf]; omega
          | false =>
            have HX1 := hid hx
            clear hx
            obtain ⟨s0, s1, s2, s3, s4⟩ := st_cells HS4.out
            obtain ⟨t0, t1, t2, t3, t4, t5, t6, t7, t8, t9, t10, t11⟩ := tab12 HB4.out.tab
            go_wp2_with fail
            refine (HSJB.out _ (HRD.out.below HB4.out.bel)).mono ?_
            rintro e w5 ⟨⟨⟨⟨k1, x1, y1, o1, f1⟩, d1, ⟨k2, x2, y2, o2, f2⟩, p1⟩, b, rfl, hyes, hno⟩, hb5⟩
            have HB5 := hid (HB4.out.below hb5)
            have HS5 : Hid (w5.heap[sb]? = some (.cells (stA (ak, ax, ay, ao, af)) 72 (0, 0))) := by rw [Hid, hb5.block _ (lt_of_block HS4.out)]; exact HS4.out
            clear t0 t1 t2 t3 t4 t5 t6 t7 t8 t9 t10 t11 s0 s1 s2 s3 s4 hb5
            simp only [spA]
            cases b with
            | false =>
              have HF := hid (HNS.out (fun _ => hno rfl))
              clear hyes hno
              go_wp2_with fail
              go_roundw
              case rel => exact ⟨j + 1, by omega, by go_num, HB5.out.alloc _, by rw [Below.heap_alloc _ _ _ (lt_of_block HS5.out)]; exact HS5.out, HF.out⟩
              case measure => simp [intOf]; omega
            | true =>
              obtain ⟨he1, he2, hst⟩ := hyes rfl
              have HANS : Hid (((k1, x1, y1, o1, f1), d1, (k2, x2, y2, o2, f2), p1).1 ∈ A ∧ Al.oB d1.toNat = true ∧ Al.hasR R x1.toNat d1.toNat = false ∧ Al.StandsR A R ((k1, x1, y1, o1, f1), d1, (k2, x2, y2, o2, f2), p1)) := by
                simp only [Prod.mk.injEq] at he1
                simp only at he2
                obtain ⟨rfl, rfl, rfl, rfl, rfl⟩ := he1
                subst he2
                exact ⟨HME.out, HOB.out, by rw [HTN.out]; exact HX1.out, hst⟩
              clear he1 he2 hst hyes hno
              have HB6 := hid (HB5.out.alloc (.cells (spA ((k1, x1, y1, o1, f1), d1, (k2, x2, y2, o2, f2), p1)) 113))
              simp only [spA] at HB6
              obtain ⟨z0, z1, z2, z3, z4, z5, z6, z7, z8, z9, z10, z11⟩ := sp12 HB6.out.res
              obtain ⟨v0, v1, v2, v3, v4, v5, v6, v7, v8, v9, v10, v11⟩ := sp_free HB6.out.res
              go_wp2_with fail
              clear z0 z1 z2 z3 z4 z5 z6 z7 z8 z9 z10 z11 v0 v1 v2 v3 v4 v5 v6 v7 v8 v9 v10 v11
              generalize w5.alloc (.cells #[.int .i64 ↑k1, .int .u8 ↑x1.toNat, .int .u8 ↑y1.toNat, .int .u8 ↑o1.toNat, .int .u8 ↑f1.toNat, .int .u8 ↑d1.toNat, .int .i64 ↑k2, .int .u8 ↑x2.toNat, .int .u8 ↑y2.toNat, .int .u8 ↑o2.toNat, .int .u8 ↑f2.toNat, .int .u8 ↑p1.toNat] 113) = W6 at *
              rw [storedP_eq]
              have hst := storedP_block (k := k1) (x := x1) (y := y1) (o := o1) (f := f1) (d := d1) (k2 := k2) (x2 := x2) (y2 := y2) (o2 := o2) (f2 := f2) (p := p1) HB6.out.res
              have HBS := hid (storedP_below (k := k1) (x := x1) (y := y1) (o := o1) (f := f1) (d := d1) (k2 := k2) (x2 := x2) (y2 := y2) (o2 := o2) (f2 := f2) (p := p1) HB6.out.bel (b := w.heap.size + 1) (by omega))
              generalize storedP W6 (w.heap.size + 1) k1 x1 y1 o1 f1 d1 k2 x2 y2 o2 f2 p1 = W9 at *
              obtain ⟨z0, z1, z2, z3, z4, z5, z6, z7, z8, z9, z10, z11⟩ := sp12 hst
              exact bodyPost_ret (v := .tuple #[.agg (spA ((k1, x1, y1, o1, f1), d1, (k2, x2, y2, o2, f2), p1)), .bool true]) (by simp [results, Try.results100, go_sem, spA, z0, z1, z2, z3, z4, z5, z6, z7, z8, z9, z10, z11]) rfl ⟨⟨_, true, rfl, fun _ => HANS.out, fun h => by cases h⟩, HBS.out⟩
        · have hj12 : j = 12 := by omega
          subst hj12
          have HF := hid (HNX.out HNJ.out)
          go_wp2_with fail
          go_roundw
          case rel => exact ⟨k + 1, by omega, by go_num, HBJ.out, HF.out⟩
          case measure => simp [intOf]; omega
    · have HA : Hid (∀ st ∈ A, ∀ o : UInt8, Al.oB o.toNat = true → Al.hasR R st.2.1.toNat o.toNat = false → Al.NoneR A R st o) := by
        have := HN.out
        rw [List.take_of_length_le (by omega)] at this
        exact this
      obtain ⟨z0, z1, z2, z3, z4, z5, z6, z7, z8, z9, z10, z11⟩ := sp12 HBX.out.res
      obtain ⟨v0, v1, v2, v3, v4, v5, v6, v7, v8, v9, v10, v11⟩ := sp_free HBX.out.res
      have hst := storedP_block (k := 0) (x := 0) (y := 0) (o := 0) (f := 0) (d := 0) (k2 := 0) (x2 := 0) (y2 := 0) (o2 := 0) (f2 := 0) (p := 0) HBX.out.res
      have HBS := hid (storedP_below (k := 0) (x := 0) (y := 0) (o := 0) (f := 0) (d := 0) (k2 := 0) (x2 := 0) (y2 := 0) (o2 := 0) (f2 := 0) (p := 0) HBX.out.bel (b := w.heap.size + 1) (by omega))
      go_wp2_with fail
      clear z0 z1 z2 z3 z4 z5 z6 z7 z8 z9 z10 z11 v0 v1 v2 v3 v4 v5 v6 v7 v8 v9 v10 v11
      rw [storedP_zero]
      generalize storedP wr (w.heap.size + 1) 0 0 0 0 0 0 0 0 0 0 0 0 = W9 at *
      obtain ⟨z0, z1, z2, z3, z4, z5, z6, z7, z8, z9, z10, z11⟩ := sp12 hst
      exact bodyPost_ret (v := .tuple #[.agg (spA ((0, 0, 0, 0, 0), 0, (0, 0, 0, 0, 0), 0)), .bool false]) (by simp [results, Try.results100, go_sem, spA, z0, z1, z2, z3, z4, z5, z6, z7, z8, z9, z10, z11]) rfl ⟨⟨_, false, rfl, fun h => (by cases h), fun _ => HA.out⟩, HBS.out⟩

set_option maxRecDepth 100000 in
set_option maxHeartbeats 1000000 in
theorem next_nil (R : Al.Rw) (w : World) :
    Calls Try.prog 100 #[.agg (tabA R), .slice none 0 0] w fun e w' => NextAns [] R e ∧ Below w.heap.size w w' := by
  simp only [tabA]
  go_enter Try.func100, Try.ntmps100
  go_wp2_with fail
  refine wp_loop_rounds 1 ?_
  rw [rounds_succ]
  go_wp2_with fail
  exact bodyPost_ret (v := .tuple #[.agg (spA ((0, 0, 0, 0, 0), 0, (0, 0, 0, 0, 0), 0)), .bool false]) (by simp [results, Try.results100, go_sem, spA]) rfl ⟨⟨_, false, rfl, fun h => (by cases h), fun _ st hst => by simp at hst⟩, ((Below.refl _ _).alloc (Nat.le_refl _) _).alloc (by simp) _⟩
theorem next_any (A : List Al.St) (R : Al.Rw) (v : Value) (w : World) (hr : RdA w v A) (hs : A.length ≤ 100000) (hR : Al.OkR R) :
    Calls Try.prog 100 #[.agg (tabA R), v] w fun e w' => NextAns A R e ∧ Below w.heap.size w w' := by
  have hr0 := hr
  rcases hr.shape with ⟨rfl, rfl⟩ | ⟨g, cap, rfl, hl, hm, hg, hc⟩
  · exact next_nil R w
  · exact next_some A R g cap w hr0 hg hc hs hR
end Go.Proofs.Ytmjlcajcobbcgaa

namespace Go.Proofs.Ytmjlcajcobbcgaa
open Go.RowKit

/-! Slices of steps. -/
def flatP (L : List Al.Sp) : List Value := L.flatMap (fun s => (spA s).toList)
theorem flatP_snoc (L : List Al.Sp) (s : Al.Sp) : flatP (L ++ [s]) = flatP L ++ (spA s).toList := by simp [flatP]
theorem flatP_get : ∀ (L : List Al.Sp) (k j : Nat) (h : k < L.length), j < 12 → (flatP L)[k * 12 + j]? = (spA L[k])[j]?
  | [], _, _, h, _ => by simp at h
  | a :: L, 0, j, _, hj => by
    have h5 : (spA a).toList.length = 12 := rfl
    simp only [flatP, List.flatMap_cons, Nat.zero_mul, Nat.zero_add, List.getElem_cons_zero]
    rw [List.getElem?_append_left (by omega)]
    simp
  | a :: L, k + 1, j, h, hj => by
    have h5 : (spA a).toList.length = 12 := rfl
    have := flatP_get L k j (by simpa using h) hj
    simp only [flatP, List.flatMap_cons, List.getElem_cons_succ] at this ⊢
    rw [List.getElem?_append_right (by omega), h5, ← this]
    congr 1; omega
/-- The slice v reads as the list L of steps. -/
def RdP (w : World) (v : Value) (L : List Al.Sp) : Prop := w.ownsRow 0 113 12 v L.length (flatP L)
theorem RdP.shape {w : World} {v : Value} {L : List Al.Sp} (h : RdP w v L) :
    (v = .slice none 0 0 ∧ L = []) ∨ ∃ g cap, v = .slice (some ⟨g, 0, none⟩) L.length cap ∧ L.length ≤ cap ∧ cap ≤ 9223372036854775807 ∧ g < w.heap.size ∧
      ∀ k (h : k < L.length), ∀ j u, j < 12 → (spA L[k])[j]? = some u → w.cell? ⟨g, k * 12 + j, none⟩ = some u := by
  rcases h.2 with ⟨rfl, hn⟩ | ⟨g, cap, cur, rfl, _, hg, hl, hm, hsz, htk⟩
  · exact .inl ⟨rfl, List.eq_nil_of_length_eq_zero hn⟩
  · refine .inr ⟨g, cap, rfl, hl, hm, (Array.getElem?_eq_some_iff.1 hg).1, fun k hk j u hj hu => ?_⟩
    have := h.cells (g := g) rfl (k * 12 + j) u (by rw [flatP_get L k j hk hj]; exact hu)
    have hadd : (⟨g, 0, none⟩ : Addr).add (k * 12 + j) = ⟨g, k * 12 + j, none⟩ := by unfold Addr.add; split <;> simp_all
    rwa [hadd] at this
theorem RdP.below {w w' : World} {v : Value} {L : List Al.Sp} (h : RdP w v L) (hb : Below w.heap.size w w') : RdP w' v L := by
  refine ⟨h.1, ?_⟩
  rcases h.2 with hn | ⟨g, cap, cur, rfl, hg0, hg, rest⟩
  · exact .inl hn
  · exact .inr ⟨g, cap, cur, rfl, hg0, by rw [hb.block g (Array.getElem?_eq_some_iff.1 hg).1]; exact hg, rest⟩
theorem Try.info113 : (Try.prog.info? 113).map (fun i => (i.zero, i.size, i.bytes)) = some (some (.agg (spA ((0, 0, 0, 0, 0), 0, (0, 0, 0, 0, 0), 0))), 12, 48) := by kernel_rfl

theorem ownsRow_other {w w' : World} {base b : Nat} {e : TypeId} {size : Nat} {v : Value} {n : Nat} {xs : List Value} (h : w.ownsRow base e size v n xs) (hg : w.grownBy w' (some b)) (hb : b < base) : w'.ownsRow base e size v n xs := by
  refine ⟨h.1, ?_⟩
  rcases h.2 with hn | ⟨g, cap, cur, rfl, hg0, hgc, rest⟩
  · exact .inl hn
  · exact .inr ⟨g, cap, cur, rfl, hg0, by rw [hg.block g (Array.getElem?_eq_some_iff.1 hgc).1 (by simp; omega)]; exact hgc, rest⟩
theorem append_at2 {P : Program} {ops : Array Oper} {rest : List Oper} {o : Oper} {a : Act} {Q : Exit → Act → World → Prop} {w0 wx : World} (hgd : o.guard = none) (s x : Operand) (t : TypeId)
    (ho : o.op = .call { callee := .builtin .append, args := #[s, x], argTypes := #[t, t] })
    (base : Nat) (e : TypeId) (i : TypeInfo) (z : Value) (size bytes : Nat) (ht : P.underlying t = some (.slice e)) (hi : P.info? e = some i) (hz : i.zero = some z)
    (hsize : i.size = size) (hby : i.bytes = bytes) (hzs : z.cells.size = size) (hsz : 0 < size)
    (v : Value) (n : Nat) (xs : List Value) (hs : a.eval s = v) (hown : wx.ownsRow base e size v n xs) (g : Nat) (cur : Array Value) (hg : wx.heap[g]? = some (.cells cur e (0, 0))) (hcur : cur.size = size) (h1 : ∀ u ∈ cur.toList, u.oneCell' = true)
    (hx : a.eval x = .slice (some ⟨g, 0, none⟩) 1 1) (hn : n + 1 ≤ 2000000) (hb : bytes ≤ 1000) (hbase : base ≤ wx.heap.size) (hbel : Below base w0 wx)
    (h : ∀ v' w', w'.ownsRow base e size v' (n + 1) (xs ++ cur.toList) → Below base w0 w' → wx.grownBy w' v.ownBlock → wpList P ops Q rest (a.put o.dst v') w') : wpList P ops Q (o :: rest) a wx := by
  refine wpList_append_own _ hgd s x t ho base e i z size bytes ht hi hz hsize hby hzs hsz v n xs hs hown ⟨g, 0, none⟩ 1 1 cur.toList hx (by simpa using hcur) ?_ h1 ?_ ?_ ?_ ?_
  · intro j u hj
    have hadd : (⟨g, 0, none⟩ : Addr).add j = ⟨g, j, none⟩ := by unfold Addr.add; split <;> simp_all
    rw [hadd, cell_of_row wx g j cur e (0, 0) hg]
    simpa using hj
  · simp only [maxLen]; omega
  · exact Nat.le_trans (Nat.mul_le_mul hn hb) (by decide)
  · exact hbase
  · intro v' w' h2 h3 _
    refine h v' w' h2 (hbel.grown h3 hbase ?_) h3
    intro k hk
    exact (hown.lt k hk).1
/-- What holds of the world in a round of allSteps. -/
structure Rnd (w wr : World) (u : Value) (R : Al.Rw) (L : List Al.Sp) : Prop where
  tab : wr.heap[w.heap.size]? = some (.cells (tabA R) 76 (0, 0))
  own : wr.ownsRow (w.heap.size + 1) 113 12 u L.length (flatP L)
  bel : Below w.heap.size w wr
theorem Rnd.below {w wr w2 : World} {u : Value} {R : Al.Rw} {L : List Al.Sp} (h : Rnd w wr u R L) (hb : Below wr.heap.size wr w2) : Rnd w w2 u R L :=
  ⟨by rw [hb.block _ (lt_of_block h.tab)]; exact h.tab, ownsRow_below h.own hb, h.bel.trans (hb.mono h.bel.size)⟩
theorem Rnd.alloc {w wr : World} {u : Value} {R : Al.Rw} {L : List Al.Sp} (h : Rnd w wr u R L) (O : Obj) : Rnd w (wr.alloc O) u R L := h.below ((Below.refl _ _).alloc (Nat.le_refl _) _)
theorem Rnd.more {w wr w2 : World} {u v : Value} {R : Al.Rw} {L : List Al.Sp} {s : Al.Sp} (h : Rnd w wr u R L) (ho : w2.ownsRow (w.heap.size + 1) 113 12 v (L.length + 1) (flatP L ++ (spA s).toList)) (hb : Below (w.heap.size + 1) wr w2) : Rnd w w2 v R (L ++ [s]) :=
  ⟨by rw [hb.block _ (by omega)]; exact h.tab, by rw [flatP_snoc, List.length_append]; exact ho, h.bel.trans (hb.mono (Nat.le_succ _))⟩
theorem Rnd.stored {w wr w2 : World} {u : Value} {R N : Al.Rw} {L : List Al.Sp} (h : Rnd w wr u R L) (hb : Below wr.heap.size wr w2) : Rnd w (storedT w2 w.heap.size N) u N L := by
  have h2 := h.below hb
  exact ⟨storedT_block h2.tab, ownsRow_other h2.own (storedT_grown w2 _ N) (by omega), storedT_below h2.bel (Nat.le_refl _)⟩

end Go.Proofs.Ytmjlcajcobbcgaa

namespace Go.Proofs.Ytmjlcajcobbcgaa
open Go.RowKit

set_option maxRecDepth 100000 in
set_option maxHeartbeats 20000000 in
theorem allSteps_any (A : List Al.St) (v : Value) (w : World) (hA : ∀ a ∈ A, Al.Wf a) (hr : RdA w v A) (hs : A.length ≤ 100000) :
    Calls Try.prog 87 #[v] w fun e w' => ∃ u L R, e = .returned u ∧ RdP w' u L ∧ Al.KnowsTo A R L ∧ (∀ st ∈ A, ∀ o : UInt8, Al.oB o.toNat = true → Al.hasR R st.2.1.toNat o.toNat = false → Al.NoneR A R st o) ∧ Below w.heap.size w w' := by
  obtain ⟨i0, hi, hz0, hz1, hz2⟩ := info_parts Try.info113
  have HNX := hid (fun R wx (h : RdA wx v A) (hR : Al.OkR R) => next_any A R v wx h hs hR)
  have HRD := hid hr
  have HA := hid hA
  have HKZ := hid (Al.knows_zero A)
  clear hr hA hs
  go_enter Try.func87, Try.ntmps87
  go_wp2_with fail
  have hst0 : Rnd w (w.alloc (.cells (tabA Al.zeroR) 76)) (.slice none 0 0) Al.zeroR [] := ⟨heap_alloc_new w _, World.ownsRow_nil _ _ _ _, (Below.refl _ _).alloc (Nat.le_refl _) _⟩
  simp only [show tabA Al.zeroR = #[.int .i64 0, .int .i64 0, .int .i64 0, .int .i64 0, .int .i64 0, .int .i64 0, .int .i64 0, .int .i64 0, .int .i64 0, .int .i64 0, .int .i64 0, .int .i64 0] from rfl] at hst0
  go_loopw [3] (fun u wr => ∃ R L, Al.KnowsTo A R L ∧ Rnd w wr u R L) (fun _ wr => 144 - Al.cnt (Al.tbOf (rowsIn wr w.heap.size)))
  case atStart => exact ⟨Al.zeroR, [], HKZ.out, hst0⟩
  case round =>
    clear hst0
    obtain ⟨R, L, hkn, hrd⟩ := hrel
    have HKN := hid hkn
    have HR := hid hrd
    have HLN := hid (Al.knows_len hkn)
    have HNR := hid (fun wx (h : RdA wx v A) => HNX.out R wx h hkn.2.1.1)
    have HPL := hid (fun (c d : UInt8) wx => plus_any R c.toNat (Al.onlyR d.toNat) wx (by have := c.toNat_lt; omega) hkn.2.1.1 (Al.onlyR_ok _))
    have HME := hid (rowsIn_tab hrd.tab)
    obtain ⟨t0, t1, t2, t3, t4, t5, t6, t7, t8, t9, t10, t11⟩ := tab12 hrd.tab
    clear hkn hrd
    simp only [tabA] at HNR
    go_wp2_with fail
    refine (HNR.out _ (HRD.out.below HR.out.bel)).mono ?_
    rintro e w2 ⟨⟨⟨⟨k1, x1, y1, o1, f1⟩, d1, ⟨k2, x2, y2, o2, f2⟩, p1⟩, b, rfl, hyes, hno⟩, hb2⟩
    have HR2 := hid (HR.out.below hb2)
    clear t0 t1 t2 t3 t4 t5 t6 t7 t8 t9 t10 t11 hb2
    simp only [spA]
    cases b with
    | false =>
      have HNO := hid (hno rfl)
      clear hyes hno
      go_wp2_with fail
      go_ret
      exact ⟨_, L, R, rfl, ownsRow_zero (HR2.out.alloc _).own, HKN.out, HNO.out, (HR2.out.alloc _).bel⟩
    | true =>
      obtain ⟨hm, ho, hn, hsr⟩ := hyes rfl
      simp only at hm ho hn
      obtain ⟨hk2, hgt⟩ := Al.knows_succ HA.out HKN.out hm ho hn hsr
      have HK2 := hid hk2
      have HGT := hid hgt
      have HP1 := hid (fun wx => HPL.out x1 d1 wx)
      have HONd := hid (fun wx => only_any d1.toNat wx (by have := d1.toNat_lt; omega))
      simp only at HK2 HGT
      clear hyes hno hm ho hn hsr hk2 hgt
      generalize Al.onlyR d1.toNat = md at *
      generalize Al.plusR R x1.toNat md = N at *
      have HR3 := hid (HR2.out.alloc (.cells (spA ((k1, x1, y1, o1, f1), d1, (k2, x2, y2, o2, f2), p1)) 113))
      have hnx := heap_alloc_new w2 (.cells (spA ((k1, x1, y1, o1, f1), d1, (k2, x2, y2, o2, f2), p1)) 113)
      obtain ⟨c0, c1, c2, c3, c4, c5, c6, c7, c8, c9, c10, c11⟩ := sp12 hnx
      have hlw := HR2.out.bel.size
      have hown := HR3.out.own
      have hsz : w.heap.size + 1 ≤ (w2.alloc (.cells (spA ((k1, x1, y1, o1, f1), d1, (k2, x2, y2, o2, f2), p1)) 113)).heap.size := by simp; omega
      have hbel := Below.refl (w.heap.size + 1) (w2.alloc (.cells (spA ((k1, x1, y1, o1, f1), d1, (k2, x2, y2, o2, f2), p1)) 113))
      have hLn : L.length + 1 ≤ 2000000 := by have := HLN.out; omega
      simp only [spA] at c0 c1 c2 c3 c4 c5 c6 c7 c8 c9 c10 c11 hown hsz hbel HR3
      have hOW : ((w2.alloc (.cells #[.int .i64 ↑k1, .int .u8 ↑x1.toNat, .int .u8 ↑y1.toNat, .int .u8 ↑o1.toNat, .int .u8 ↑f1.toNat, .int .u8 ↑d1.toNat, .int .i64 ↑k2, .int .u8 ↑x2.toNat, .int .u8 ↑y2.toNat, .int .u8 ↑o2.toNat, .int .u8 ↑f2.toNat, .int .u8 ↑p1.toNat] 113)).alloc (.cells #[.int .i64 ↑k1, .int .u8 ↑x1.toNat, .int .u8 ↑y1.toNat, .int .u8 ↑o1.toNat, .int .u8 ↑f1.toNat, .int .u8 ↑d1.toNat, .int .i64 ↑k2, .int .u8 ↑x2.toNat, .int .u8 ↑y2.toNat, .int .u8 ↑o2.toNat, .int .u8 ↑f2.toNat, .int .u8 ↑p1.toNat] 113)).ownsRow (w.heap.size + 1) 113 12 u3 L.length (flatP L) := hown.alloc _
      have hBE := hbel.alloc hsz (.cells #[.int .i64 ↑k1, .int .u8 ↑x1.toNat, .int .u8 ↑y1.toNat, .int .u8 ↑o1.toNat, .int .u8 ↑f1.toNat, .int .u8 ↑d1.toNat, .int .i64 ↑k2, .int .u8 ↑x2.toNat, .int .u8 ↑y2.toNat, .int .u8 ↑o2.toNat, .int .u8 ↑f2.toNat, .int .u8 ↑p1.toNat] 113)
      have hSZ : w.heap.size + 1 ≤ ((w2.alloc (.cells #[.int .i64 ↑k1, .int .u8 ↑x1.toNat, .int .u8 ↑y1.toNat, .int .u8 ↑o1.toNat, .int .u8 ↑f1.toNat, .int .u8 ↑d1.toNat, .int .i64 ↑k2, .int .u8 ↑x2.toNat, .int .u8 ↑y2.toNat, .int .u8 ↑o2.toNat, .int .u8 ↑f2.toNat, .int .u8 ↑p1.toNat] 113)).alloc (.cells #[.int .i64 ↑k1, .int .u8 ↑x1.toNat, .int .u8 ↑y1.toNat, .int .u8 ↑o1.toNat, .int .u8 ↑f1.toNat, .int .u8 ↑d1.toNat, .int .i64 ↑k2, .int .u8 ↑x2.toNat, .int .u8 ↑y2.toNat, .int .u8 ↑o2.toNat, .int .u8 ↑f2.toNat, .int .u8 ↑p1.toNat] 113)).heap.size := by simp; omega
      clear hown hbel
      go_wp2_with (at_builtin; refine append_at2 (w0 := w2.alloc (.cells #[.int .i64 ↑k1, .int .u8 ↑x1.toNat, .int .u8 ↑y1.toNat, .int .u8 ↑o1.toNat, .int .u8 ↑f1.toNat, .int .u8 ↑d1.toNat, .int .i64 ↑k2, .int .u8 ↑x2.toNat, .int .u8 ↑y2.toNat, .int .u8 ↑o2.toNat, .int .u8 ↑f2.toNat, .int .u8 ↑p1.toNat] 113)) rfl (.tmp 16) (.tmp 18) 110 rfl (w.heap.size + 1) 113 i0 (.agg (spA ((0, 0, 0, 0, 0), 0, (0, 0, 0, 0, 0), 0))) 12 48 Try.underlying110 hi hz0 hz1 hz2 rfl (by decide) _ L.length (flatP L) rfl hOW (w2.heap.size + 1) (spA ((k1, x1, y1, o1, f1), d1, (k2, x2, y2, o2, f2), p1)) (by exact heap2 w2 _ _) rfl (by simp [spA, Value.oneCell']) rfl hLn (by decide) hSZ hBE ?_; intro v3 w3 hown3 hbel3 hgr3)
      have hR4 : Rnd w w3 v3 R (L ++ [((k1, x1, y1, o1, f1), d1, (k2, x2, y2, o2, f2), p1)]) := HR3.out.more hown3 hbel3
      have hnx3 : w3.heap[w2.heap.size]? = some (.cells (spA ((k1, x1, y1, o1, f1), d1, (k2, x2, y2, o2, f2), p1)) 113 (0, 0)) := by
        rw [hgr3.block _ (by simp only [World.size_alloc]; omega) (fun e => by have := (HR2.out.own.lt _ e.symm).2; omega), Below.heap_alloc _ _ _ (by simp only [World.size_alloc]; omega)]
        exact hnx
      have HR4 := hid hR4
      clear c0 c1 c2 c3 c4 c5 c6 c7 c8 c9 c10 c11 hOW hBE hSZ hsz hown3 hbel3 hgr3 hR4 hnx hlw
      obtain ⟨t0, t1, t2, t3, t4, t5, t6, t7, t8, t9, t10, t11⟩ := tab12 HR4.out.tab
      obtain ⟨c0, c1, c2, c3, c4, c5, c6, c7, c8, c9, c10, c11⟩ := sp12 hnx3
      simp only [tabA] at HP1
      clear hnx3 HNX HNR HPL
      apply wp_merge (fun w' => Rnd w w' v3 N (L ++ [((k1, x1, y1, o1, f1), d1, (k2, x2, y2, o2, f2), p1)]))
      case h =>
        go_region_with (first | (go_at_call 80; refine (HONd.out _).mono ?_; rintro e w' ⟨rfl, rfl⟩) | (go_at_call 78; refine (HP1.out _).mono ?_; rintro e w4 ⟨rfl, hb4⟩; have hZ2 : w4.heap[w.heap.size]? = some (.cells (tabA R) 76 (0, 0)) := (by rw [hb4.block _ (lt_of_block HR4.out.tab)]; exact HR4.out.tab); obtain ⟨z0, z1, z2, z3, z4, z5, z6, z7, z8, z9, z10, z11⟩ := tab12 hZ2; obtain ⟨q0, q1, q2, q3, q4, q5, q6, q7, q8, q9, q10, q11⟩ := tab_free hZ2))
        all_goals
          rw [storedT_eq]
          exact ⟨rfl, HR4.out.stored (N := N) (undrew hb4)⟩
      clear t0 t1 t2 t3 t4 t5 t6 t7 t8 t9 t10 t11 c0 c1 c2 c3 c4 c5 c6 c7 c8 c9 c10 c11
      intro W5 hR5
      have HR5 := hid hR5
      clear hR5
      go_wp2_with fail
      refine ⟨⟨N, L ++ [((k1, x1, y1, o1, f1), d1, (k2, x2, y2, o2, f2), p1)], HK2.out, HR5.out⟩, ?_⟩
      rw [HME.out, rowsIn_tab HR5.out.tab]
      have h1 := HGT.out
      have h2 := Al.cnt_le (Al.tbOf N)
      omega
end Go.Proofs.Ytmjlcajcobbcgaa
