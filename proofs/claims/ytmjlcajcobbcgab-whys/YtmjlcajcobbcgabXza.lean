import Derived.Test.YtmjlcajcobbcgabXz
import Derived.Test.YtmjlcajcobbcgabXy
namespace Go.Proofs.Ytmjlcajcobbcgab
open Go.RowKit

/-- The boxes of stepBy: the table, the statement, the result. -/
structure Bl3 (w W : World) (R : Al.Rw) (s : Al.St) : Prop where
  tab : W.heap[w.heap.size]? = some (.cells (tabA R) 75 (0, 0))
  stm : W.heap[w.heap.size + 1]? = some (.cells (stA s) 93 (0, 0))
  res : W.heap[w.heap.size + 1 + 1]? = some (.cells (spA ((0, 0, 0, 0, 0), 0, (0, 0, 0, 0, 0), 0)) 124 (0, 0))
  bel : Below w.heap.size w W
theorem Bl3.below {w W w2 : World} {R : Al.Rw} {s : Al.St} (h : Bl3 w W R s) (hb : Below W.heap.size W w2) : Bl3 w w2 R s :=
  ⟨by rw [hb.block _ (lt_of_block h.tab)]; exact h.tab, by rw [hb.block _ (lt_of_block h.stm)]; exact h.stm, by rw [hb.block _ (lt_of_block h.res)]; exact h.res, h.bel.trans (hb.mono h.bel.size)⟩
theorem Bl3.alloc {w W : World} {R : Al.Rw} {s : Al.St} (h : Bl3 w W R s) (O : Obj) : Bl3 w (W.alloc O) R s := h.below ((Below.refl _ _).alloc (Nat.le_refl _) _)
theorem bl3_start (w : World) (R : Al.Rw) (s : Al.St) : Bl3 w (((w.alloc (.cells (tabA R) 75)).alloc (.cells (stA s) 93)).alloc (.cells (spA ((0, 0, 0, 0, 0), 0, (0, 0, 0, 0, 0), 0)) 124)) R s :=
  ⟨by rw [Below.heap_alloc _ _ _ (by simp; omega), Below.heap_alloc _ _ _ (by simp)]; exact heap_alloc_new w _, by rw [Below.heap_alloc _ _ _ (by simp)]; exact heap2 w _ _, by have := heap_alloc_new ((w.alloc (.cells (tabA R) 75)).alloc (.cells (stA s) 93)) (.cells (spA ((0, 0, 0, 0, 0), 0, (0, 0, 0, 0, 0), 0)) 124); simpa using this, (((Below.refl _ _).alloc (Nat.le_refl _) _).alloc (by simp) _).alloc (by simp; omega) _⟩
theorem stB_toNat {j : Nat} (h : j < 12) : (Al.stB j).toNat = 65 + j := by unfold Al.stB; simp; omega
theorem stB_of {p : UInt8} (h : Al.oB p.toNat = true) : ∃ j, j < 12 ∧ p = Al.stB j := by
  have := Al.ob_bd h
  exact ⟨p.toNat - 65, by unfold Al.si at this; omega, UInt8.toNat_inj.1 (by rw [stB_toNat (by unfold Al.si at this; omega)]; omega)⟩
theorem mem_take_succ {A : List Al.St} {k : Nat} (h : k < A.length) {s : Al.St} (hs : s ∈ A.take (k + 1)) : s ∈ A.take k ∨ s = A[k] := by
  rw [List.take_succ_eq_append_getElem h, List.mem_append, List.mem_singleton] at hs; exact hs

theorem storedP_hit {w : World} {b lk : Nat} {lx ly lo af o ax ay ao p : UInt8} {q : Int} (hq : q = ((p.toNat : Nat) : Int)) : (((((((((((w.setCell ⟨b, 0, none⟩ (.int .i64 ↑lk)).setCell ⟨b, 1, none⟩ (.int .u8 ↑lx.toNat)).setCell ⟨b, 2, none⟩ (.int .u8 ↑ly.toNat)).setCell ⟨b, 3, none⟩ (.int .u8 ↑lo.toNat)).setCell ⟨b, 4, none⟩ (.int .u8 ↑af.toNat)).setCell ⟨b, 5, none⟩ (.int .u8 ↑o.toNat)).setCell ⟨b, 6, none⟩ (.int .i64 3)).setCell ⟨b, 7, none⟩ (.int .u8 ↑ax.toNat)).setCell ⟨b, 8, none⟩ (.int .u8 ↑ay.toNat)).setCell ⟨b, 9, none⟩ (.int .u8 ↑ao.toNat)).setCell ⟨b, 10, none⟩ (.int .u8 ↑af.toNat)).setCell ⟨b, 11, none⟩ (.int .u8 q) = storedP w b lk lx ly lo af o 3 ax ay ao af p := by subst hq; rfl

/-- What stepBy and stepByLoad answer. -/
def StepAns (A : List Al.St) (R : Al.Rw) (st : Al.St) (o : UInt8) (e : Ending) : Prop := ∃ sp b, e = .returned (.tuple #[.agg (spA sp), .bool b]) ∧ (b = true → sp.1 = st ∧ sp.2.1 = o ∧ Al.StandsR A R sp) ∧ (b = false → Al.NoneR A R st o)

set_option maxRecDepth 100000 in
set_option maxHeartbeats 4000000 in
theorem byLoad_some (A : List Al.St) (R : Al.Rw) (ld : Al.St) (o : UInt8) (g cap : Nat) (w : World) (hg : g < w.heap.size) (hc : ∀ k (h : k < A.length), w.cell? ⟨g, k * 5, none⟩ = some (.int .i64 (A[k].1 : Nat)) ∧ w.cell? ⟨g, k * 5 + 1, none⟩ = some (.int .u8 (A[k].2.1.toNat : Nat)) ∧ w.cell? ⟨g, k * 5 + 2, none⟩ = some (.int .u8 (A[k].2.2.1.toNat : Nat)) ∧
        w.cell? ⟨g, k * 5 + 3, none⟩ = some (.int .u8 (A[k].2.2.2.1.toNat : Nat)) ∧ w.cell? ⟨g, k * 5 + 4, none⟩ = some (.int .u8 (A[k].2.2.2.2.toNat : Nat)))
    (hs : A.length ≤ 100000) (hR : Al.OkR R) (h2 : ld.1 = 2) :
    Calls Try.prog 105 #[.agg (tabA R), .agg (stA ld), .int .u8 (o.toNat : Nat), .slice (some ⟨g, 0, none⟩) A.length cap] w fun e w' => StepAns A R ld o e ∧ Below w.heap.size w w' := by
  have HC := hid hc
  have HHA := hid (fun (c d : Nat) (hc : c ≤ 255) (hd : d ≤ 255) wx => has_any R c d wx hc hd hR)
  have HNO : Hid ((∀ st p, ¬ Al.LoadHit A R ld o st p) → Al.NoneR A R ld o) := fun h => ⟨fun e => by omega, fun e => by omega, fun _ => h⟩
  have HYES : Hid (∀ st p, Al.LoadHit A R ld o st p → Al.StandsR A R (ld, o, st, p)) := fun st p h => .inr (.inr ⟨h2, h⟩)
  have HLH : Hid (∀ st p, Al.LoadHit A R ld o st p ↔ st ∈ A ∧ st.1 = 3 ∧ st.2.2.2.2 = ld.2.2.2.2 ∧ Al.hasR R st.2.2.1.toNat o.toNat = true ∧ Al.oB p.toNat = true ∧ Al.hasR R st.2.1.toNat p.toNat = true ∧ Al.hasR R ld.2.2.1.toNat p.toNat = true) := fun st p => Iff.rfl
  have HMEM : Hid (∀ k (h : k < A.length), A[k] ∈ A) := fun k h => List.getElem_mem h
  have HMT : Hid (∀ k (h : k < A.length) s, s ∈ A.take (k + 1) → s ∈ A.take k ∨ s = A[k]) := fun k h s hs => mem_take_succ h hs
  clear hc hR
  have HB0 := hid (bl3_start w R ld)
  obtain ⟨LD, hLD⟩ : ∃ LD, ld = LD := ⟨_, rfl⟩
  have HLD := hid hLD
  rw [hLD] at HNO HYES HB0 HLH
  clear hLD h2
  obtain ⟨lk, lx, ly, lo, lf⟩ := ld
  rw [← HLD.out] at HB0
  have bo : o.toNat ≤ 255 := by have := o.toNat_lt; omega
  have bly : ly.toNat ≤ 255 := by have := ly.toNat_lt; omega
  simp only [stA, tabA, spA, show ((0 : UInt8).toNat : Int) = 0 from rfl, show ((0 : Nat) : Int) = 0 from rfl] at HHA HB0 ⊢
  go_enter Try.func105, Try.ntmps105
  go_wp2_with fail
  generalize ((w.alloc (.cells #[.int .i64 ↑(R 0), .int .i64 ↑(R 1), .int .i64 ↑(R 2), .int .i64 ↑(R 3), .int .i64 ↑(R 4), .int .i64 ↑(R 5), .int .i64 ↑(R 6), .int .i64 ↑(R 7), .int .i64 ↑(R 8), .int .i64 ↑(R 9), .int .i64 ↑(R 10), .int .i64 ↑(R 11)] 75)).alloc (.cells #[.int .i64 ↑lk, .int .u8 ↑lx.toNat, .int .u8 ↑ly.toNat, .int .u8 ↑lo.toNat, .int .u8 ↑lf.toNat] 93)).alloc (.cells #[.int .i64 0, .int .u8 0, .int .u8 0, .int .u8 0, .int .u8 0, .int .u8 0, .int .i64 0, .int .u8 0, .int .u8 0, .int .u8 0, .int .u8 0, .int .u8 0] 124) = W0 at *
  go_loopw [15] (fun i wr => ∃ k : Nat, k ≤ A.length ∧ i = .int .i64 k ∧ Bl3 w wr R (lk, lx, ly, lo, lf) ∧ (∀ st ∈ A.take k, ∀ p, ¬ Al.LoadHit A R LD o st p)) (fun i _ => A.length - (intOf i).toNat)
  case atStart => exact ⟨0, Nat.zero_le _, rfl, HB0.out, fun st hst => by simp at hst⟩
  case round =>
    obtain ⟨k, hk, rfl, hbx, hno⟩ := hrel
    have HN := hid hno
    have HBX := hid hbx
    clear hno hbx HB0
    by_cases hlt : k < A.length
    · obtain ⟨c0, c1, c2, c3, c4⟩ := HC.out k hlt
      have HME : Hid (A[k] ∈ A) := HMEM.out k hlt
      have HNX : Hid ((∀ p, ¬ Al.LoadHit A R LD o A[k] p) → ∀ st ∈ A.take (k + 1), ∀ p, ¬ Al.LoadHit A R LD o st p) := fun h st hst p => by
        rcases HMT.out k hlt st hst with h1 | rfl
        · exact HN.out st h1 p
        · exact h p
      have HLA := hid (HLH.out A[k])
      have HYE := hid (HYES.out A[k])
      generalize A[k] = a at *
      obtain ⟨ak, ax, ay, ao, af⟩ := a
      have d0 := cell_below HBX.out.bel c0 hg
      have d1 := cell_below HBX.out.bel c1 hg
      have d2 := cell_below HBX.out.bel c2 hg
      have d3 := cell_below HBX.out.bel c3 hg
      have d4 := cell_below HBX.out.bel c4 hg
      simp only at d0 d1 d2 d3 d4
      obtain ⟨m0, m1, m2, m3, m4⟩ := st_cells HBX.out.stm
      obtain ⟨t0, t1, t2, t3, t4, t5, t6, t7, t8, t9, t10, t11⟩ := tab12 HBX.out.tab
      have hq0 := lt_of_block HBX.out.tab
      have hq1 := lt_of_block HBX.out.stm
      clear c0 c1 c2 c3 c4
      by_cases k3 : ak = 3
      · subst k3
        by_cases hfe : af = lf
        · subst hfe
          have by1 : ay.toNat ≤ 255 := by have := ay.toNat_lt; omega
          have bx1 : ax.toNat ≤ 255 := by have := ax.toNat_lt; omega
          go_wp2_with fail
          have hnew := heap_alloc_new wr (.cells (stA (3, ax, ay, ao, af)) 93)
          have hbx2 := HBX.out.alloc (.cells (stA (3, ax, ay, ao, af)) 93)
          simp only [stA] at hnew hbx2
          generalize wr.alloc (.cells #[.int .i64 ↑(3 : Nat), .int .u8 ↑ax.toNat, .int .u8 ↑ay.toNat, .int .u8 ↑ao.toNat, .int .u8 ↑af.toNat] 93) = W2 at *
          refine (HHA.out _ _ by1 bo _).mono ?_
          rintro e w3 ⟨rfl, hb3⟩
          have hbx3 := hbx2.below hb3
          have hst3 : w3.heap[wr.heap.size]? = some (.cells (stA (3, ax, ay, ao, af)) 93 (0, 0)) := by rw [hb3.block _ (lt_of_block hnew)]; exact hnew
          have hge : w.heap.size + 1 + 1 < wr.heap.size := lt_of_block HBX.out.res
          clear t0 t1 t2 t3 t4 t5 t6 t7 t8 t9 t10 t11 d0 d1 d2 d3 d4 m0 m1 m2 m3 m4 hnew hbx2 hb3 hq0 hq1
          generalize wr.heap.size = sb at *
          have HB3 := hid hbx3
          have HS3 := hid hst3
          clear hbx3 hst3
          cases hh : Al.hasR R ay.toNat o.toNat with
          | false =>
            have HNH : Hid (∀ p, ¬ Al.LoadHit A R LD o (3, ax, ay, ao, af) p) := fun p h => by
              have := ((HLA.out p).1 h).2.2.2.1
              simp only [hh] at this
              cases this
            clear hh
            go_wp2_with fail
            go_roundw
            case rel => exact ⟨k + 1, by omega, by go_num, HB3.out, HNX.out HNH.out⟩
            case measure => simp [intOf]; omega
          | true =>
            have HHH := hid hh
            clear hh
            go_wp2_with fail
            go_loopw [12] (fun p wr => ∃ j : Nat, j ≤ 12 ∧ p = .int .u8 ((65 + j : Nat) : Int) ∧ Bl3 w wr R (lk, lx, ly, lo, af) ∧ wr.heap[sb]? = some (.cells (stA (3, ax, ay, ao, af)) 93 (0, 0)) ∧ (∀ q, q < j → Al.hasR R ax.toNat (65 + q) = true → Al.hasR R ly.toNat (65 + q) = true → False)) (fun p _ => 77 - (intOf p).toNat)
            case atStart => exact ⟨0, by omega, rfl, HB3.out, HS3.out, fun q hq => by omega⟩
            case round =>
              obtain ⟨j, hj, rfl, hbx, hst, hno⟩ := hrel
              have HNJ := hid hno
              have HBJ := hid hbx
              have HSJ := hid hst
              clear hno hbx hst HB3 HS3
              by_cases hjl : j < 12
              · have bj : 65 + j ≤ 255 := by omega
                have hjq : 65 + j ≤ 76 := by omega
                obtain ⟨m0, m1, m2, m3, m4⟩ := st_cells HBJ.out.stm
                obtain ⟨s0, s1, s2, s3, s4⟩ := st_cells HSJ.out
                obtain ⟨t0, t1, t2, t3, t4, t5, t6, t7, t8, t9, t10, t11⟩ := tab12 HBJ.out.tab
                have HNS : Hid ((Al.hasR R ax.toNat (65 + j) = true → Al.hasR R ly.toNat (65 + j) = true → False) → ∀ q, q < j + 1 → Al.hasR R ax.toNat (65 + q) = true → Al.hasR R ly.toNat (65 + q) = true → False) := fun h q hq => by
                  rcases Nat.lt_succ_iff_lt_or_eq.1 hq with h1 | rfl
                  · exact HNJ.out q h1
                  · exact h
                go_wp2_with fail
                refine (HHA.out _ _ bx1 bj _).mono ?_
                rintro e w4 ⟨rfl, hb4⟩
                have HB4 := hid (HBJ.out.below hb4)
                have HS4 : Hid (w4.heap[sb]? = some (.cells (stA (3, ax, ay, ao, af)) 93 (0, 0))) := by rw [Hid, hb4.block _ (lt_of_block HSJ.out)]; exact HSJ.out
                clear t0 t1 t2 t3 t4 t5 t6 t7 t8 t9 t10 t11 m0 m1 m2 m3 m4 s0 s1 s2 s3 s4 hb4
                obtain ⟨m0, m1, m2, m3, m4⟩ := st_cells HB4.out.stm
                obtain ⟨s0, s1, s2, s3, s4⟩ := st_cells HS4.out
                obtain ⟨t0, t1, t2, t3, t4, t5, t6, t7, t8, t9, t10, t11⟩ := tab12 HB4.out.tab
                cases hx : Al.hasR R ax.toNat (65 + j) with
                | false =>
                  have HF : Hid (∀ q, q < j + 1 → Al.hasR R ax.toNat (65 + q) = true → Al.hasR R ly.toNat (65 + q) = true → False) := HNS.out (fun h => by rw [hx] at h; cases h)
                  clear hx
                  go_wp2_with fail
                  go_roundw
                  case rel => exact ⟨j + 1, by omega, by go_num, HB4.out, HS4.out, HF.out⟩
                  case measure => simp [intOf]; omega
                | true =>
                  have HX1 := hid hx
                  clear hx
                  go_wp2_with fail
                  refine (HHA.out _ _ bly bj _).mono ?_
                  rintro e w5 ⟨rfl, hb5⟩
                  have HB5 := hid (HB4.out.below hb5)
                  have HS5 : Hid (w5.heap[sb]? = some (.cells (stA (3, ax, ay, ao, af)) 93 (0, 0))) := by rw [Hid, hb5.block _ (lt_of_block HS4.out)]; exact HS4.out
                  clear t0 t1 t2 t3 t4 t5 t6 t7 t8 t9 t10 t11 m0 m1 m2 m3 m4 s0 s1 s2 s3 s4 hb5
                  cases hy : Al.hasR R ly.toNat (65 + j) with
                  | false =>
                    have HF : Hid (∀ q, q < j + 1 → Al.hasR R ax.toNat (65 + q) = true → Al.hasR R ly.toNat (65 + q) = true → False) := HNS.out (fun _ h => by rw [hy] at h; cases h)
                    clear hy
                    go_wp2_with fail
                    go_roundw
                    case rel => exact ⟨j + 1, by omega, by go_num, HB5.out, HS5.out, HF.out⟩
                    case measure => simp [intOf]; omega
                  | true =>
                    have hpj := stB_toNat hjl
                    have HHIT : Hid (Al.LoadHit A R LD o (3, ax, ay, ao, af) (Al.stB j)) := (HLA.out _).2 ⟨HME.out, by first | rfl | trivial, by first | rw [← HLD.out] | trivial, HHH.out, (Al.stB_ok hjl).1, by rw [hpj]; exact HX1.out, by rw [hpj, ← HLD.out]; exact hy⟩
                    have HANS := hid (HYE.out _ HHIT.out)
                    clear hy
                    obtain ⟨m0, m1, m2, m3, m4⟩ := st_cells HB5.out.stm
                    obtain ⟨s0, s1, s2, s3, s4⟩ := st_cells HS5.out
                    obtain ⟨z0, z1, z2, z3, z4, z5, z6, z7, z8, z9, z10, z11⟩ := sp12 HB5.out.res
                    obtain ⟨v0, v1, v2, v3, v4, v5, v6, v7, v8, v9, v10, v11⟩ := sp_free HB5.out.res
                    have HPJ : Hid ((65 : Int) + (j : Int) = ((Al.stB j).toNat : Nat)) := by rw [Hid, hpj]; simp
                    have hst := storedP_block (k := lk) (x := lx) (y := ly) (o := lo) (f := af) (d := o) (k2 := 3) (x2 := ax) (y2 := ay) (o2 := ao) (f2 := af) (p := Al.stB j) HB5.out.res
                    have HBS := hid (storedP_below (k := lk) (x := lx) (y := ly) (o := lo) (f := af) (d := o) (k2 := 3) (x2 := ax) (y2 := ay) (o2 := ao) (f2 := af) (p := Al.stB j) HB5.out.bel (b := w.heap.size + 1 + 1) (by omega))
                    clear hpj
                    go_wp2_with fail
                    clear z0 z1 z2 z3 z4 z5 z6 z7 z8 z9 z10 z11 v0 v1 v2 v3 v4 v5 v6 v7 v8 v9 v10 v11 m0 m1 m2 m3 m4 s0 s1 s2 s3 s4
                    rw [storedP_hit HPJ.out]
                    generalize storedP w5 (w.heap.size + 1 + 1) lk lx ly lo af o 3 ax ay ao af (Al.stB j) = W9 at *
                    obtain ⟨z0, z1, z2, z3, z4, z5, z6, z7, z8, z9, z10, z11⟩ := sp12 hst
                    exact bodyPost_ret (v := .tuple #[.agg (spA ((lk, lx, ly, lo, af), o, (3, ax, ay, ao, af), Al.stB j)), .bool true]) (by simp [results, Try.results105, go_sem, spA, z0, z1, z2, z3, z4, z5, z6, z7, z8, z9, z10, z11]) rfl ⟨⟨_, true, rfl, fun _ => ⟨rfl, rfl, by rw [HLD.out]; exact HANS.out⟩, fun h => by cases h⟩, HBS.out⟩
              · have hj12 : j = 12 := by omega
                subst hj12
                have HNH : Hid (∀ p, ¬ Al.LoadHit A R LD o (3, ax, ay, ao, af) p) := fun p h => by
                  obtain ⟨_, _, _, _, q1, q2, q3⟩ := (HLA.out p).1 h
                  obtain ⟨q, hq, rfl⟩ := stB_of q1
                  rw [stB_toNat hq] at q2 q3
                  exact HNJ.out q hq q2 (by rw [← HLD.out] at q3; exact q3)
                go_wp2_with fail
                go_roundw
                case rel => exact ⟨k + 1, by omega, by go_num, HBJ.out, HNX.out HNH.out⟩
                case measure => simp [intOf]; omega
        · have HNH : Hid (∀ p, ¬ Al.LoadHit A R LD o (3, ax, ay, ao, af) p) := fun p h => hfe (by have := ((HLA.out p).1 h).2.2.1; rw [← HLD.out] at this; exact this)
          have hne : ((af.toNat : Int) != (lf.toNat : Int)) = true := by rw [bne_iff_ne]; exact fun h => hfe (UInt8.toNat_inj.1 (by omega))
          clear hfe
          go_wp2_with fail
          go_roundw
          case rel => exact ⟨k + 1, by omega, by go_num, HBX.out.alloc _, HNX.out HNH.out⟩
          case measure => simp [intOf]; omega
      · have HNH : Hid (∀ p, ¬ Al.LoadHit A R LD o (ak, ax, ay, ao, af) p) := fun p h => k3 ((HLA.out p).1 h).2.1
        have hne : ((ak : Int) != 3) = true := by rw [bne_iff_ne]; omega
        clear k3
        go_wp2_with fail
        go_roundw
        case rel => exact ⟨k + 1, by omega, by go_num, HBX.out.alloc _, HNX.out HNH.out⟩
        case measure => simp [intOf]; omega
    · have HA : Hid (∀ st p, ¬ Al.LoadHit A R LD o st p) := fun st p h => by
        have := HN.out st
        rw [List.take_of_length_le (by omega)] at this
        exact this h.1 p h
      obtain ⟨z0, z1, z2, z3, z4, z5, z6, z7, z8, z9, z10, z11⟩ := sp12 HBX.out.res
      obtain ⟨v0, v1, v2, v3, v4, v5, v6, v7, v8, v9, v10, v11⟩ := sp_free HBX.out.res
      have hst := storedP_block (k := 0) (x := 0) (y := 0) (o := 0) (f := 0) (d := 0) (k2 := 0) (x2 := 0) (y2 := 0) (o2 := 0) (f2 := 0) (p := 0) HBX.out.res
      have HBS := hid (storedP_below (k := 0) (x := 0) (y := 0) (o := 0) (f := 0) (d := 0) (k2 := 0) (x2 := 0) (y2 := 0) (o2 := 0) (f2 := 0) (p := 0) HBX.out.bel (b := w.heap.size + 1 + 1) (by omega))
      go_wp2_with fail
      clear z0 z1 z2 z3 z4 z5 z6 z7 z8 z9 z10 z11 v0 v1 v2 v3 v4 v5 v6 v7 v8 v9 v10 v11
      rw [storedP_zero]
      generalize storedP wr (w.heap.size + 1 + 1) 0 0 0 0 0 0 0 0 0 0 0 0 = W9 at *
      obtain ⟨z0, z1, z2, z3, z4, z5, z6, z7, z8, z9, z10, z11⟩ := sp12 hst
      exact bodyPost_ret (v := .tuple #[.agg (spA ((0, 0, 0, 0, 0), 0, (0, 0, 0, 0, 0), 0)), .bool false]) (by simp [results, Try.results105, go_sem, spA, z0, z1, z2, z3, z4, z5, z6, z7, z8, z9, z10, z11]) rfl ⟨⟨_, false, rfl, fun h => (by cases h), fun _ => by rw [HLD.out]; exact HNO.out HA.out⟩, HBS.out⟩
end Go.Proofs.Ytmjlcajcobbcgab

namespace Go.Proofs.Ytmjlcajcobbcgab
open Go.RowKit

theorem drew_cell {w : World} {a : Addr} : w.drew.cell? a = w.cell? a := rfl
theorem drew_heap {w : World} {b : Nat} : w.drew.heap[b]? = w.heap[b]? := rfl
theorem chain_grown {w : World} {b : Nat} {v0 v1 v2 v3 v4 v5 v6 v7 v8 v9 v10 v11 : Value} : w.grownBy ((((((((((((w.setCell ⟨b, 0, none⟩ (v0)).setCell ⟨b, 1, none⟩ (v1)).setCell ⟨b, 2, none⟩ (v2)).setCell ⟨b, 3, none⟩ (v3)).setCell ⟨b, 4, none⟩ (v4)).setCell ⟨b, 5, none⟩ (v5)).setCell ⟨b, 6, none⟩ (v6)).setCell ⟨b, 7, none⟩ (v7)).setCell ⟨b, 8, none⟩ (v8)).setCell ⟨b, 9, none⟩ (v9)).setCell ⟨b, 10, none⟩ (v10)).setCell ⟨b, 11, none⟩ (v11)) (some b) := grown_setCell (grown_setCell (grown_setCell (grown_setCell (grown_setCell (grown_setCell (grown_setCell (grown_setCell (grown_setCell (grown_setCell (grown_setCell (grown_setCell (grown_refl _ _))))))))))))
theorem chain_keep {w : World} {b c i : Nat} {v v0 v1 v2 v3 v4 v5 v6 v7 v8 v9 v10 v11 : Value} (hne : c ≠ b) (h : w.cell? ⟨c, i, none⟩ = some v) : ((((((((((((w.setCell ⟨b, 0, none⟩ (v0)).setCell ⟨b, 1, none⟩ (v1)).setCell ⟨b, 2, none⟩ (v2)).setCell ⟨b, 3, none⟩ (v3)).setCell ⟨b, 4, none⟩ (v4)).setCell ⟨b, 5, none⟩ (v5)).setCell ⟨b, 6, none⟩ (v6)).setCell ⟨b, 7, none⟩ (v7)).setCell ⟨b, 8, none⟩ (v8)).setCell ⟨b, 9, none⟩ (v9)).setCell ⟨b, 10, none⟩ (v10)).setCell ⟨b, 11, none⟩ (v11)).cell? ⟨c, i, none⟩ = some v := by
  have hl := World.block_lt_of_cell? w _ h
  have hb := (chain_grown (w := w) (b := b) (v0 := v0) (v1 := v1) (v2 := v2) (v3 := v3) (v4 := v4) (v5 := v5) (v6 := v6) (v7 := v7) (v8 := v8) (v9 := v9) (v10 := v10) (v11 := v11)).block c hl (by simpa using hne)
  unfold World.cell? at h ⊢
  rw [hb]; exact h
theorem chain_block {w : World} {b : Nat} {T : TypeId} {v0 v1 v2 v3 v4 v5 v6 v7 v8 v9 v10 v11 y0 y1 y2 y3 y4 y5 y6 y7 y8 y9 y10 y11 : Value} (h : w.heap[b]? = some (.cells #[y0, y1, y2, y3, y4, y5, y6, y7, y8, y9, y10, y11] T (0, 0))) : ((((((((((((w.setCell ⟨b, 0, none⟩ (v0)).setCell ⟨b, 1, none⟩ (v1)).setCell ⟨b, 2, none⟩ (v2)).setCell ⟨b, 3, none⟩ (v3)).setCell ⟨b, 4, none⟩ (v4)).setCell ⟨b, 5, none⟩ (v5)).setCell ⟨b, 6, none⟩ (v6)).setCell ⟨b, 7, none⟩ (v7)).setCell ⟨b, 8, none⟩ (v8)).setCell ⟨b, 9, none⟩ (v9)).setCell ⟨b, 10, none⟩ (v10)).setCell ⟨b, 11, none⟩ (v11)).heap[b]? = some (.cells #[v0, v1, v2, v3, v4, v5, v6, v7, v8, v9, v10, v11] T (0, 0)) := by
  have h1 := block_setCell (j := 0) v0 h
  have h2 := block_setCell (j := 1) v1 h1
  have h3 := block_setCell (j := 2) v2 h2
  have h4 := block_setCell (j := 3) v3 h3
  have h5 := block_setCell (j := 4) v4 h4
  have h6 := block_setCell (j := 5) v5 h5
  have h7 := block_setCell (j := 6) v6 h6
  have h8 := block_setCell (j := 7) v7 h7
  have h9 := block_setCell (j := 8) v8 h8
  have h10 := block_setCell (j := 9) v9 h9
  have h11 := block_setCell (j := 10) v10 h10
  have h12 := block_setCell (j := 11) v11 h11
  simpa using h12
theorem chain_below {w0 w : World} {B b : Nat} {v0 v1 v2 v3 v4 v5 v6 v7 v8 v9 v10 v11 : Value} (h : Below B w0 w) (hb : B ≤ b) : Below B w0 ((((((((((((w.setCell ⟨b, 0, none⟩ (v0)).setCell ⟨b, 1, none⟩ (v1)).setCell ⟨b, 2, none⟩ (v2)).setCell ⟨b, 3, none⟩ (v3)).setCell ⟨b, 4, none⟩ (v4)).setCell ⟨b, 5, none⟩ (v5)).setCell ⟨b, 6, none⟩ (v6)).setCell ⟨b, 7, none⟩ (v7)).setCell ⟨b, 8, none⟩ (v8)).setCell ⟨b, 9, none⟩ (v9)).setCell ⟨b, 10, none⟩ (v10)).setCell ⟨b, 11, none⟩ (v11)) :=
  ((((((((((((h.setCell hb _).setCell hb _).setCell hb _).setCell hb _).setCell hb _).setCell hb _).setCell hb _).setCell hb _).setCell hb _).setCell hb _).setCell hb _).setCell hb _)

theorem chain_keep_d {w : World} {b c i : Nat} {v v0 v1 v2 v3 v4 v5 v6 v7 v8 v9 v10 v11 : Value} (hne : c ≠ b) (h : w.cell? ⟨c, i, none⟩ = some v) : ((((((((((((w.setCell ⟨b, 0, none⟩ (v0)).setCell ⟨b, 1, none⟩ (v1)).setCell ⟨b, 2, none⟩ (v2)).setCell ⟨b, 3, none⟩ (v3)).setCell ⟨b, 4, none⟩ (v4)).setCell ⟨b, 5, none⟩ (v5)).setCell ⟨b, 6, none⟩ (v6)).setCell ⟨b, 7, none⟩ (v7)).setCell ⟨b, 8, none⟩ (v8)).setCell ⟨b, 9, none⟩ (v9)).setCell ⟨b, 10, none⟩ (v10)).setCell ⟨b, 11, none⟩ (v11)).drew.cell? ⟨c, i, none⟩ = some v := drew_cell.trans (chain_keep hne h)
theorem chain_block_d {w : World} {b : Nat} {T : TypeId} {v0 v1 v2 v3 v4 v5 v6 v7 v8 v9 v10 v11 y0 y1 y2 y3 y4 y5 y6 y7 y8 y9 y10 y11 : Value} (h : w.heap[b]? = some (.cells #[y0, y1, y2, y3, y4, y5, y6, y7, y8, y9, y10, y11] T (0, 0))) : ((((((((((((w.setCell ⟨b, 0, none⟩ (v0)).setCell ⟨b, 1, none⟩ (v1)).setCell ⟨b, 2, none⟩ (v2)).setCell ⟨b, 3, none⟩ (v3)).setCell ⟨b, 4, none⟩ (v4)).setCell ⟨b, 5, none⟩ (v5)).setCell ⟨b, 6, none⟩ (v6)).setCell ⟨b, 7, none⟩ (v7)).setCell ⟨b, 8, none⟩ (v8)).setCell ⟨b, 9, none⟩ (v9)).setCell ⟨b, 10, none⟩ (v10)).setCell ⟨b, 11, none⟩ (v11)).drew.heap[b]? = some (.cells #[v0, v1, v2, v3, v4, v5, v6, v7, v8, v9, v10, v11] T (0, 0)) := drew_heap.trans (chain_block h)
theorem chain_below_d {w0 w : World} {B b : Nat} {v0 v1 v2 v3 v4 v5 v6 v7 v8 v9 v10 v11 : Value} (h : Below B w0 w) (hb : B ≤ b) : Below B w0 (((((((((((((w.setCell ⟨b, 0, none⟩ (v0)).setCell ⟨b, 1, none⟩ (v1)).setCell ⟨b, 2, none⟩ (v2)).setCell ⟨b, 3, none⟩ (v3)).setCell ⟨b, 4, none⟩ (v4)).setCell ⟨b, 5, none⟩ (v5)).setCell ⟨b, 6, none⟩ (v6)).setCell ⟨b, 7, none⟩ (v7)).setCell ⟨b, 8, none⟩ (v8)).setCell ⟨b, 9, none⟩ (v9)).setCell ⟨b, 10, none⟩ (v10)).setCell ⟨b, 11, none⟩ (v11)).drew) := (chain_below h hb).drew

set_option maxRecDepth 100000 in
set_option maxHeartbeats 1000000 in
theorem byLoad_nil (R : Al.Rw) (ld : Al.St) (o : UInt8) (w : World) (h2 : ld.1 = 2) :
    Calls Try.prog 105 #[.agg (tabA R), .agg (stA ld), .int .u8 (o.toNat : Nat), .slice none 0 0] w fun e w' => StepAns [] R ld o e ∧ Below w.heap.size w w' := by
  have HNO : Hid (Al.NoneR [] R ld o) := ⟨fun e => by omega, fun e => by omega, fun _ st p h => by simpa using h.1⟩
  clear h2
  obtain ⟨lk, lx, ly, lo, lf⟩ := ld
  simp only [stA, tabA]
  go_enter Try.func105, Try.ntmps105
  go_wp2_with fail
  refine wp_loop_rounds 1 ?_
  rw [rounds_succ]
  go_wp2_with fail
  exact bodyPost_ret (v := .tuple #[.agg (spA ((0, 0, 0, 0, 0), 0, (0, 0, 0, 0, 0), 0)), .bool false]) (by simp [results, Try.results105, go_sem, spA]) rfl ⟨⟨_, false, rfl, fun h => (by cases h), fun _ => HNO.out⟩, (((Below.refl _ _).alloc (Nat.le_refl _) _).alloc (by simp) _).alloc (by simp; omega) _⟩
theorem byLoad_any (A : List Al.St) (R : Al.Rw) (ld : Al.St) (o : UInt8) (v : Value) (w : World) (hr : RdA w v A) (hs : A.length ≤ 100000) (hR : Al.OkR R) (h2 : ld.1 = 2) :
    Calls Try.prog 105 #[.agg (tabA R), .agg (stA ld), .int .u8 (o.toNat : Nat), v] w fun e w' => StepAns A R ld o e ∧ Below w.heap.size w w' := by
  rcases hr.shape with ⟨rfl, rfl⟩ | ⟨g, cap, rfl, hl, hm, hg, hc⟩
  · exact byLoad_nil R ld o w h2
  · exact byLoad_some A R ld o g cap w hg hc hs hR h2

end Go.Proofs.Ytmjlcajcobbcgab

namespace Go.Proofs.Ytmjlcajcobbcgab
open Go.RowKit

set_option maxRecDepth 100000 in
set_option maxHeartbeats 400000 in
theorem stepBy_0 (A : List Al.St) (R : Al.Rw) (st : Al.St) (o : UInt8) (v : Value) (w : World) (hr : RdA w v A) (hs : A.length ≤ 100000) (hR : Al.OkR R) (hk : st.1 = 0) :
    Calls Try.prog 104 #[.agg (tabA R), .agg (stA st), .int .u8 (o.toNat : Nat), v] w fun e w' => StepAns A R st o e ∧ Below w.heap.size w w' := by
  have HHA := hid (fun (wx : World) => has_any R st.2.2.1.toNat o.toNat wx (by have := st.2.2.1.toNat_lt; omega) (by have := o.toNat_lt; omega) hR)
  have HBL := hid (fun wx (h : RdA wx v A) (h2 : st.1 = 2) => byLoad_any A R st o v wx h hs hR h2)
  have HRD := hid hr
  have HB0 := hid (bl3_start w R st)
  clear hr hR hs
  obtain ⟨sk, sx, sy, so, sf⟩ := st
  simp only at hk
  subst hk
  simp only [stA, tabA, spA, show ((0 : UInt8).toNat : Int) = 0 from rfl, show ((0 : Nat) : Int) = 0 from rfl] at HHA HBL HB0 ⊢
  go_enter Try.func104, Try.ntmps104
  go_wp2_with fail
  generalize ((w.alloc (.cells #[.int .i64 ↑(R 0), .int .i64 ↑(R 1), .int .i64 ↑(R 2), .int .i64 ↑(R 3), .int .i64 ↑(R 4), .int .i64 ↑(R 5), .int .i64 ↑(R 6), .int .i64 ↑(R 7), .int .i64 ↑(R 8), .int .i64 ↑(R 9), .int .i64 ↑(R 10), .int .i64 ↑(R 11)] 75)).alloc (.cells #[.int .i64 ↑(0 : Nat), .int .u8 ↑sx.toNat, .int .u8 ↑sy.toNat, .int .u8 ↑so.toNat, .int .u8 ↑sf.toNat] 93)).alloc (.cells #[.int .i64 0, .int .u8 0, .int .u8 0, .int .u8 0, .int .u8 0, .int .u8 0, .int .i64 0, .int .u8 0, .int .u8 0, .int .u8 0, .int .u8 0, .int .u8 0] 124) = W0 at *
  obtain ⟨m0, m1, m2, m3, m4⟩ := st_cells HB0.out.stm
  obtain ⟨z0, z1, z2, z3, z4, z5, z6, z7, z8, z9, z10, z11⟩ := sp12 HB0.out.res
  obtain ⟨q0, q1, q2, q3, q4, q5, q6, q7, q8, q9, q10, q11⟩ := sp_free HB0.out.res
  have n0 : W0.drew.cell? ⟨w.heap.size + 1, 0, none⟩ = some (.int .i64 ↑(0 : Nat)) := m0
  have n1 : W0.drew.cell? ⟨w.heap.size + 1, 1, none⟩ = some (.int .u8 ↑sx.toNat) := m1
  have n2 : W0.drew.cell? ⟨w.heap.size + 1, 2, none⟩ = some (.int .u8 ↑sy.toNat) := m2
  have n3 : W0.drew.cell? ⟨w.heap.size + 1, 3, none⟩ = some (.int .u8 ↑so.toNat) := m3
  have n4 : W0.drew.cell? ⟨w.heap.size + 1, 4, none⟩ = some (.int .u8 ↑sf.toNat) := m4
  cases he : ((so.toNat : Int) == (o.toNat : Int)) with
  | true =>
    have HE : Hid (so = o) := UInt8.toNat_inj.1 (by have := beq_iff_eq.1 he; omega)
    apply wp_merge (fun w' => w'.heap[w.heap.size + 1 + 1]? = some (.cells (spA ((0, sx, sy, so, sf), o, (0, 0, 0, 0, 0), 0)) 124 (0, 0)) ∧ Below w.heap.size w w')
    case h =>
      go_region_held3 (fun w' => w'.cell? ⟨w.heap.size + 1, 0, none⟩ = some (.int .i64 ↑(0 : Nat)) ∧ w'.cell? ⟨w.heap.size + 1, 1, none⟩ = some (.int .u8 ↑sx.toNat) ∧ w'.cell? ⟨w.heap.size + 1, 2, none⟩ = some (.int .u8 ↑sy.toNat) ∧ w'.cell? ⟨w.heap.size + 1, 3, none⟩ = some (.int .u8 ↑so.toNat) ∧ w'.cell? ⟨w.heap.size + 1, 4, none⟩ = some (.int .u8 ↑sf.toNat)) (first | with_reducible exact ⟨n0, n1, n2, n3, n4⟩ | exact ⟨chain_keep_d (by omega) m0, chain_keep_d (by omega) m1, chain_keep_d (by omega) m2, chain_keep_d (by omega) m3, chain_keep_d (by omega) m4⟩) (fail)
      all_goals exact ⟨rfl, chain_block_d HB0.out.res, chain_below_d HB0.out.bel (by omega)⟩
    clear m0 m1 m2 m3 m4 n0 n1 n2 n3 n4 z0 z1 z2 z3 z4 z5 z6 z7 z8 z9 z10 z11 q0 q1 q2 q3 q4 q5 q6 q7 q8 q9 q10 q11
    intro W9 hW9
    obtain ⟨hst, hbs⟩ := hW9
    obtain ⟨z0, z1, z2, z3, z4, z5, z6, z7, z8, z9, z10, z11⟩ := sp12 hst
    have HBS := hid hbs
    clear hbs
    go_wp2_with fail
    exact bodyPost_ret (v := .tuple #[.agg (spA ((0, sx, sy, so, sf), o, (0, 0, 0, 0, 0), 0)), .bool true]) (by simp [results, Try.results104, go_sem, spA, z0, z1, z2, z3, z4, z5, z6, z7, z8, z9, z10, z11]) rfl ⟨⟨_, true, rfl, fun _ => ⟨rfl, rfl, .inl ⟨rfl, HE.out⟩⟩, fun h => by cases h⟩, HBS.out⟩
  | false =>
    have HE : Hid (so ≠ o) := fun e => by rw [e] at he; simp at he
    apply wp_merge (fun w' => w'.heap[w.heap.size + 1 + 1]? = some (.cells (spA ((0, sx, sy, so, sf), o, (0, 0, 0, 0, 0), 0)) 124 (0, 0)) ∧ Below w.heap.size w w')
    case h =>
      go_region_held3 (fun w' => w'.cell? ⟨w.heap.size + 1, 0, none⟩ = some (.int .i64 ↑(0 : Nat)) ∧ w'.cell? ⟨w.heap.size + 1, 1, none⟩ = some (.int .u8 ↑sx.toNat) ∧ w'.cell? ⟨w.heap.size + 1, 2, none⟩ = some (.int .u8 ↑sy.toNat) ∧ w'.cell? ⟨w.heap.size + 1, 3, none⟩ = some (.int .u8 ↑so.toNat) ∧ w'.cell? ⟨w.heap.size + 1, 4, none⟩ = some (.int .u8 ↑sf.toNat)) (first | with_reducible exact ⟨n0, n1, n2, n3, n4⟩ | exact ⟨chain_keep_d (by omega) m0, chain_keep_d (by omega) m1, chain_keep_d (by omega) m2, chain_keep_d (by omega) m3, chain_keep_d (by omega) m4⟩) (fail)
      all_goals exact ⟨rfl, chain_block_d HB0.out.res, chain_below_d HB0.out.bel (by omega)⟩
    clear m0 m1 m2 m3 m4 n0 n1 n2 n3 n4 z0 z1 z2 z3 z4 z5 z6 z7 z8 z9 z10 z11 q0 q1 q2 q3 q4 q5 q6 q7 q8 q9 q10 q11
    intro W9 hW9
    obtain ⟨hst, hbs⟩ := hW9
    obtain ⟨z0, z1, z2, z3, z4, z5, z6, z7, z8, z9, z10, z11⟩ := sp12 hst
    have HBS := hid hbs
    clear hbs
    go_wp2_with fail
    exact bodyPost_ret (v := .tuple #[.agg (spA ((0, sx, sy, so, sf), o, (0, 0, 0, 0, 0), 0)), .bool false]) (by simp [results, Try.results104, go_sem, spA, z0, z1, z2, z3, z4, z5, z6, z7, z8, z9, z10, z11]) rfl ⟨⟨_, false, rfl, fun h => (by cases h), fun _ => ⟨fun _ => HE.out, fun h => absurd h (by simp), fun h => absurd h (by simp)⟩⟩, HBS.out⟩
end Go.Proofs.Ytmjlcajcobbcgab

namespace Go.Proofs.Ytmjlcajcobbcgab
open Go.RowKit

theorem storedP_keep {w : World} {b c i : Nat} {v : Value} {k : Nat} {x y o f d : UInt8} {k2 : Nat} {x2 y2 o2 f2 p : UInt8} (hne : c ≠ b) (h : w.cell? ⟨c, i, none⟩ = some v) : (storedP w b k x y o f d k2 x2 y2 o2 f2 p).cell? ⟨c, i, none⟩ = some v := by
  have hl := World.block_lt_of_cell? w _ h
  have hb := (storedP_grown w b k x y o f d k2 x2 y2 o2 f2 p).block c hl (by simpa using hne)
  unfold World.cell? at h ⊢
  rw [hb]; exact h
theorem storedP_by1 {w : World} {b : Nat} {sx sy so sf o : UInt8} : (((((((((((w.setCell ⟨b, 0, none⟩ (.int .i64 1)).setCell ⟨b, 1, none⟩ (.int .u8 ↑sx.toNat)).setCell ⟨b, 2, none⟩ (.int .u8 ↑sy.toNat)).setCell ⟨b, 3, none⟩ (.int .u8 ↑so.toNat)).setCell ⟨b, 4, none⟩ (.int .u8 ↑sf.toNat)).setCell ⟨b, 5, none⟩ (.int .u8 ↑o.toNat)).setCell ⟨b, 6, none⟩ (.int .i64 0)).setCell ⟨b, 7, none⟩ (.int .u8 0)).setCell ⟨b, 8, none⟩ (.int .u8 0)).setCell ⟨b, 9, none⟩ (.int .u8 0)).setCell ⟨b, 10, none⟩ (.int .u8 0)).setCell ⟨b, 11, none⟩ (.int .u8 0) = storedP w b 1 sx sy so sf o 0 0 0 0 0 0 := rfl

set_option maxRecDepth 100000 in
set_option maxHeartbeats 400000 in
theorem stepBy_1 (A : List Al.St) (R : Al.Rw) (st : Al.St) (o : UInt8) (v : Value) (w : World) (hr : RdA w v A) (hs : A.length ≤ 100000) (hR : Al.OkR R) (hk : st.1 = 1) :
    Calls Try.prog 104 #[.agg (tabA R), .agg (stA st), .int .u8 (o.toNat : Nat), v] w fun e w' => StepAns A R st o e ∧ Below w.heap.size w w' := by
  have HHA := hid (fun (wx : World) => has_any R st.2.2.1.toNat o.toNat wx (by have := st.2.2.1.toNat_lt; omega) (by have := o.toNat_lt; omega) hR)
  have HBL := hid (fun wx (h : RdA wx v A) (h2 : st.1 = 2) => byLoad_any A R st o v wx h hs hR h2)
  have HRD := hid hr
  have HB0 := hid (bl3_start w R st)
  clear hr hR hs
  obtain ⟨sk, sx, sy, so, sf⟩ := st
  simp only at hk
  subst hk
  simp only [stA, tabA, spA, show ((0 : UInt8).toNat : Int) = 0 from rfl, show ((0 : Nat) : Int) = 0 from rfl] at HHA HBL HB0 ⊢
  go_enter Try.func104, Try.ntmps104
  go_wp2_with fail
  generalize ((w.alloc (.cells #[.int .i64 ↑(R 0), .int .i64 ↑(R 1), .int .i64 ↑(R 2), .int .i64 ↑(R 3), .int .i64 ↑(R 4), .int .i64 ↑(R 5), .int .i64 ↑(R 6), .int .i64 ↑(R 7), .int .i64 ↑(R 8), .int .i64 ↑(R 9), .int .i64 ↑(R 10), .int .i64 ↑(R 11)] 75)).alloc (.cells #[.int .i64 ↑(1 : Nat), .int .u8 ↑sx.toNat, .int .u8 ↑sy.toNat, .int .u8 ↑so.toNat, .int .u8 ↑sf.toNat] 93)).alloc (.cells #[.int .i64 0, .int .u8 0, .int .u8 0, .int .u8 0, .int .u8 0, .int .u8 0, .int .i64 0, .int .u8 0, .int .u8 0, .int .u8 0, .int .u8 0, .int .u8 0] 124) = W0 at *
  obtain ⟨m0, m1, m2, m3, m4⟩ := st_cells HB0.out.stm
  obtain ⟨t0, t1, t2, t3, t4, t5, t6, t7, t8, t9, t10, t11⟩ := tab12 HB0.out.tab
  have HHB := HHA
  cases he : Al.hasR R sy.toNat o.toNat with
  | true =>
    have HE := hid he
    simp only [he] at HHB
    clear he
    apply wp_merge (fun w' => w'.heap[w.heap.size + 1 + 1]? = some (.cells (spA ((1, sx, sy, so, sf), o, (0, 0, 0, 0, 0), 0)) 124 (0, 0)) ∧ Below w.heap.size w w')
    case h =>
      go_region_held3 (fun w' => w'.cell? ⟨w.heap.size + 1, 0, none⟩ = some (.int .i64 ↑(1 : Nat)) ∧ w'.cell? ⟨w.heap.size + 1, 1, none⟩ = some (.int .u8 ↑sx.toNat) ∧ w'.cell? ⟨w.heap.size + 1, 2, none⟩ = some (.int .u8 ↑sy.toNat) ∧ w'.cell? ⟨w.heap.size + 1, 3, none⟩ = some (.int .u8 ↑so.toNat) ∧ w'.cell? ⟨w.heap.size + 1, 4, none⟩ = some (.int .u8 ↑sf.toNat) ∧ w'.cell? ⟨w.heap.size, 0, none⟩ = some (.int .i64 ↑(R 0)) ∧ w'.cell? ⟨w.heap.size, 1, none⟩ = some (.int .i64 ↑(R 1)) ∧ w'.cell? ⟨w.heap.size, 2, none⟩ = some (.int .i64 ↑(R 2)) ∧ w'.cell? ⟨w.heap.size, 3, none⟩ = some (.int .i64 ↑(R 3)) ∧ w'.cell? ⟨w.heap.size, 4, none⟩ = some (.int .i64 ↑(R 4)) ∧ w'.cell? ⟨w.heap.size, 5, none⟩ = some (.int .i64 ↑(R 5)) ∧ w'.cell? ⟨w.heap.size, 6, none⟩ = some (.int .i64 ↑(R 6)) ∧ w'.cell? ⟨w.heap.size, 7, none⟩ = some (.int .i64 ↑(R 7)) ∧ w'.cell? ⟨w.heap.size, 8, none⟩ = some (.int .i64 ↑(R 8)) ∧ w'.cell? ⟨w.heap.size, 9, none⟩ = some (.int .i64 ↑(R 9)) ∧ w'.cell? ⟨w.heap.size, 10, none⟩ = some (.int .i64 ↑(R 10)) ∧ w'.cell? ⟨w.heap.size, 11, none⟩ = some (.int .i64 ↑(R 11))) (first | (rw [storedP_by1]; go_split_ands; exact ⟨storedP_keep (by omega) (by assumption), storedP_keep (by omega) (by assumption), storedP_keep (by omega) (by assumption), storedP_keep (by omega) (by assumption), storedP_keep (by omega) (by assumption), storedP_keep (by omega) (by assumption), storedP_keep (by omega) (by assumption), storedP_keep (by omega) (by assumption), storedP_keep (by omega) (by assumption), storedP_keep (by omega) (by assumption), storedP_keep (by omega) (by assumption), storedP_keep (by omega) (by assumption), storedP_keep (by omega) (by assumption), storedP_keep (by omega) (by assumption), storedP_keep (by omega) (by assumption), storedP_keep (by omega) (by assumption), storedP_keep (by omega) (by assumption)⟩) | exact ⟨m0, m1, m2, m3, m4, t0, t1, t2, t3, t4, t5, t6, t7, t8, t9, t10, t11⟩ | (go_split_ands; exact ⟨cell_keep hb2 (by assumption), cell_keep hb2 (by assumption), cell_keep hb2 (by assumption), cell_keep hb2 (by assumption), cell_keep hb2 (by assumption), cell_keep hb2 (by assumption), cell_keep hb2 (by assumption), cell_keep hb2 (by assumption), cell_keep hb2 (by assumption), cell_keep hb2 (by assumption), cell_keep hb2 (by assumption), cell_keep hb2 (by assumption), cell_keep hb2 (by assumption), cell_keep hb2 (by assumption), cell_keep hb2 (by assumption), cell_keep hb2 (by assumption), cell_keep hb2 (by assumption)⟩)) ((go_at_call 71; refine (HHB.out _).mono ?_; rintro e w2 ⟨rfl, hb2⟩; have hZ2 : w2.heap[w.heap.size + 1 + 1]? = some (.cells (spA ((0, 0, 0, 0, 0), 0, (0, 0, 0, 0, 0), 0)) 124 (0, 0)) := (by rw [hb2.block _ (lt_of_block HB0.out.res)]; exact HB0.out.res); obtain ⟨z0, z1, z2, z3, z4, z5, z6, z7, z8, z9, z10, z11⟩ := sp12 hZ2; obtain ⟨q0, q1, q2, q3, q4, q5, q6, q7, q8, q9, q10, q11⟩ := sp_free hZ2))
      all_goals exact ⟨rfl, chain_block hZ2, chain_below (HB0.out.bel.drew.trans (hb2.mono HB0.out.bel.size)) (by omega)⟩
    clear m0 m1 m2 m3 m4 t0 t1 t2 t3 t4 t5 t6 t7 t8 t9 t10 t11
    intro W9 hW9
    obtain ⟨hst, hbs⟩ := hW9
    obtain ⟨z0, z1, z2, z3, z4, z5, z6, z7, z8, z9, z10, z11⟩ := sp12 hst
    have HBS := hid hbs
    clear hbs
    go_wp2_with fail
    exact bodyPost_ret (v := .tuple #[.agg (spA ((1, sx, sy, so, sf), o, (0, 0, 0, 0, 0), 0)), .bool true]) (by simp [results, Try.results104, go_sem, spA, z0, z1, z2, z3, z4, z5, z6, z7, z8, z9, z10, z11]) rfl ⟨⟨_, true, rfl, fun _ => ⟨rfl, rfl, .inr (.inl ⟨rfl, HE.out⟩)⟩, fun h => by cases h⟩, HBS.out⟩
  | false =>
    have HE := hid he
    simp only [he] at HHB
    clear he
    apply wp_merge (fun w' => w'.heap[w.heap.size + 1 + 1]? = some (.cells (spA ((1, sx, sy, so, sf), o, (0, 0, 0, 0, 0), 0)) 124 (0, 0)) ∧ Below w.heap.size w w')
    case h =>
      go_region_held3 (fun w' => w'.cell? ⟨w.heap.size + 1, 0, none⟩ = some (.int .i64 ↑(1 : Nat)) ∧ w'.cell? ⟨w.heap.size + 1, 1, none⟩ = some (.int .u8 ↑sx.toNat) ∧ w'.cell? ⟨w.heap.size + 1, 2, none⟩ = some (.int .u8 ↑sy.toNat) ∧ w'.cell? ⟨w.heap.size + 1, 3, none⟩ = some (.int .u8 ↑so.toNat) ∧ w'.cell? ⟨w.heap.size + 1, 4, none⟩ = some (.int .u8 ↑sf.toNat) ∧ w'.cell? ⟨w.heap.size, 0, none⟩ = some (.int .i64 ↑(R 0)) ∧ w'.cell? ⟨w.heap.size, 1, none⟩ = some (.int .i64 ↑(R 1)) ∧ w'.cell? ⟨w.heap.size, 2, none⟩ = some (.int .i64 ↑(R 2)) ∧ w'.cell? ⟨w.heap.size, 3, none⟩ = some (.int .i64 ↑(R 3)) ∧ w'.cell? ⟨w.heap.size, 4, none⟩ = some (.int .i64 ↑(R 4)) ∧ w'.cell? ⟨w.heap.size, 5, none⟩ = some (.int .i64 ↑(R 5)) ∧ w'.cell? ⟨w.heap.size, 6, none⟩ = some (.int .i64 ↑(R 6)) ∧ w'.cell? ⟨w.heap.size, 7, none⟩ = some (.int .i64 ↑(R 7)) ∧ w'.cell? ⟨w.heap.size, 8, none⟩ = some (.int .i64 ↑(R 8)) ∧ w'.cell? ⟨w.heap.size, 9, none⟩ = some (.int .i64 ↑(R 9)) ∧ w'.cell? ⟨w.heap.size, 10, none⟩ = some (.int .i64 ↑(R 10)) ∧ w'.cell? ⟨w.heap.size, 11, none⟩ = some (.int .i64 ↑(R 11))) (first | (rw [storedP_by1]; go_split_ands; exact ⟨storedP_keep (by omega) (by assumption), storedP_keep (by omega) (by assumption), storedP_keep (by omega) (by assumption), storedP_keep (by omega) (by assumption), storedP_keep (by omega) (by assumption), storedP_keep (by omega) (by assumption), storedP_keep (by omega) (by assumption), storedP_keep (by omega) (by assumption), storedP_keep (by omega) (by assumption), storedP_keep (by omega) (by assumption), storedP_keep (by omega) (by assumption), storedP_keep (by omega) (by assumption), storedP_keep (by omega) (by assumption), storedP_keep (by omega) (by assumption), storedP_keep (by omega) (by assumption), storedP_keep (by omega) (by assumption), storedP_keep (by omega) (by assumption)⟩) | exact ⟨m0, m1, m2, m3, m4, t0, t1, t2, t3, t4, t5, t6, t7, t8, t9, t10, t11⟩ | (go_split_ands; exact ⟨cell_keep hb2 (by assumption), cell_keep hb2 (by assumption), cell_keep hb2 (by assumption), cell_keep hb2 (by assumption), cell_keep hb2 (by assumption), cell_keep hb2 (by assumption), cell_keep hb2 (by assumption), cell_keep hb2 (by assumption), cell_keep hb2 (by assumption), cell_keep hb2 (by assumption), cell_keep hb2 (by assumption), cell_keep hb2 (by assumption), cell_keep hb2 (by assumption), cell_keep hb2 (by assumption), cell_keep hb2 (by assumption), cell_keep hb2 (by assumption), cell_keep hb2 (by assumption)⟩)) ((go_at_call 71; refine (HHB.out _).mono ?_; rintro e w2 ⟨rfl, hb2⟩; have hZ2 : w2.heap[w.heap.size + 1 + 1]? = some (.cells (spA ((0, 0, 0, 0, 0), 0, (0, 0, 0, 0, 0), 0)) 124 (0, 0)) := (by rw [hb2.block _ (lt_of_block HB0.out.res)]; exact HB0.out.res); obtain ⟨z0, z1, z2, z3, z4, z5, z6, z7, z8, z9, z10, z11⟩ := sp12 hZ2; obtain ⟨q0, q1, q2, q3, q4, q5, q6, q7, q8, q9, q10, q11⟩ := sp_free hZ2))
      all_goals exact ⟨rfl, chain_block hZ2, chain_below (HB0.out.bel.drew.trans (hb2.mono HB0.out.bel.size)) (by omega)⟩
    clear m0 m1 m2 m3 m4 t0 t1 t2 t3 t4 t5 t6 t7 t8 t9 t10 t11
    intro W9 hW9
    obtain ⟨hst, hbs⟩ := hW9
    obtain ⟨z0, z1, z2, z3, z4, z5, z6, z7, z8, z9, z10, z11⟩ := sp12 hst
    have HBS := hid hbs
    clear hbs
    go_wp2_with fail
    exact bodyPost_ret (v := .tuple #[.agg (spA ((1, sx, sy, so, sf), o, (0, 0, 0, 0, 0), 0)), .bool false]) (by simp [results, Try.results104, go_sem, spA, z0, z1, z2, z3, z4, z5, z6, z7, z8, z9, z10, z11]) rfl ⟨⟨_, false, rfl, fun h => (by cases h), fun _ => ⟨fun h => absurd h (by simp), fun _ => HE.out, fun h => absurd h (by simp)⟩⟩, HBS.out⟩
end Go.Proofs.Ytmjlcajcobbcgab

namespace Go.Proofs.Ytmjlcajcobbcgab
open Go.RowKit

set_option maxRecDepth 100000 in
set_option maxHeartbeats 400000 in
theorem stepBy_2 (A : List Al.St) (R : Al.Rw) (st : Al.St) (o : UInt8) (v : Value) (w : World) (hr : RdA w v A) (hs : A.length ≤ 100000) (hR : Al.OkR R) (hk : st.1 = 2) :
    Calls Try.prog 104 #[.agg (tabA R), .agg (stA st), .int .u8 (o.toNat : Nat), v] w fun e w' => StepAns A R st o e ∧ Below w.heap.size w w' := by
  have HHA := hid (fun (wx : World) => has_any R st.2.2.1.toNat o.toNat wx (by have := st.2.2.1.toNat_lt; omega) (by have := o.toNat_lt; omega) hR)
  have HBL := hid (fun wx (h : RdA wx v A) (h2 : st.1 = 2) => byLoad_any A R st o v wx h hs hR h2)
  have HRD := hid hr
  have HB0 := hid (bl3_start w R st)
  clear hr hR hs
  obtain ⟨sk, sx, sy, so, sf⟩ := st
  simp only at hk
  subst hk
  simp only [stA, tabA, spA, show ((0 : UInt8).toNat : Int) = 0 from rfl, show ((0 : Nat) : Int) = 0 from rfl] at HHA HBL HB0 ⊢
  go_enter Try.func104, Try.ntmps104
  go_wp2_with fail
  generalize ((w.alloc (.cells #[.int .i64 ↑(R 0), .int .i64 ↑(R 1), .int .i64 ↑(R 2), .int .i64 ↑(R 3), .int .i64 ↑(R 4), .int .i64 ↑(R 5), .int .i64 ↑(R 6), .int .i64 ↑(R 7), .int .i64 ↑(R 8), .int .i64 ↑(R 9), .int .i64 ↑(R 10), .int .i64 ↑(R 11)] 75)).alloc (.cells #[.int .i64 ↑(2 : Nat), .int .u8 ↑sx.toNat, .int .u8 ↑sy.toNat, .int .u8 ↑so.toNat, .int .u8 ↑sf.toNat] 93)).alloc (.cells #[.int .i64 0, .int .u8 0, .int .u8 0, .int .u8 0, .int .u8 0, .int .u8 0, .int .i64 0, .int .u8 0, .int .u8 0, .int .u8 0, .int .u8 0, .int .u8 0] 124) = W0 at *
  refine (HBL.out _ (HRD.out.below HB0.out.bel) (by first | rfl | trivial)).mono ?_
  rintro e w2 ⟨⟨⟨⟨k, x, y, q, f⟩, d, ⟨k2, x2, y2, o2, f2⟩, p⟩, b, rfl, hyes, hno⟩, hb2⟩
  have hb3 := HB0.out.below hb2
  obtain ⟨z0, z1, z2, z3, z4, z5, z6, z7, z8, z9, z10, z11⟩ := sp12 hb3.res
  obtain ⟨q0, q1, q2, q3, q4, q5, q6, q7, q8, q9, q10, q11⟩ := sp_free hb3.res
  have HY := hid (And.intro hyes hno)
  have HB3 := hid hb3
  clear hyes hno hb3 hb2
  simp only [spA]
  go_wp2_with fail
  rw [storedP_eq]
  clear z0 z1 z2 z3 z4 z5 z6 z7 z8 z9 z10 z11 q0 q1 q2 q3 q4 q5 q6 q7 q8 q9 q10 q11
  have hst := storedP_block (k := k) (x := x) (y := y) (o := q) (f := f) (d := d) (k2 := k2) (x2 := x2) (y2 := y2) (o2 := o2) (f2 := f2) (p := p) HB3.out.res
  have HBS := hid (storedP_below (k := k) (x := x) (y := y) (o := q) (f := f) (d := d) (k2 := k2) (x2 := x2) (y2 := y2) (o2 := o2) (f2 := f2) (p := p) HB3.out.bel (b := w.heap.size + 1 + 1) (by omega))
  generalize storedP w2 (w.heap.size + 1 + 1) k x y q f d k2 x2 y2 o2 f2 p = W9 at *
  obtain ⟨z0, z1, z2, z3, z4, z5, z6, z7, z8, z9, z10, z11⟩ := sp12 hst
  exact bodyPost_ret (v := .tuple #[.agg (spA ((k, x, y, q, f), d, (k2, x2, y2, o2, f2), p)), .bool b]) (by simp [results, Try.results104, go_sem, spA, z0, z1, z2, z3, z4, z5, z6, z7, z8, z9, z10, z11]) rfl ⟨⟨_, b, rfl, HY.out.1, HY.out.2⟩, HBS.out⟩
end Go.Proofs.Ytmjlcajcobbcgab

namespace Go.Proofs.Ytmjlcajcobbcgab
open Go.RowKit

set_option maxRecDepth 100000 in
set_option maxHeartbeats 4000000 in
theorem stepBy_3 (A : List Al.St) (R : Al.Rw) (st : Al.St) (o : UInt8) (v : Value) (w : World) (hr : RdA w v A) (hs : A.length ≤ 100000) (hR : Al.OkR R) (h0 : ¬ st.1 = 0) (h1 : ¬ st.1 = 1) (h2 : ¬ st.1 = 2) :
    Calls Try.prog 104 #[.agg (tabA R), .agg (stA st), .int .u8 (o.toNat : Nat), v] w fun e w' => StepAns A R st o e ∧ Below w.heap.size w w' := by
  have HHA := hid (fun (wx : World) => has_any R st.2.2.1.toNat o.toNat wx (by have := st.2.2.1.toNat_lt; omega) (by have := o.toNat_lt; omega) hR)
  have HBL := hid (fun wx (h : RdA wx v A) (h2 : st.1 = 2) => byLoad_any A R st o v wx h hs hR h2)
  have HRD := hid hr
  have HB0 := hid (bl3_start w R st)
  clear hr hR hs
  obtain ⟨sk, sx, sy, so, sf⟩ := st
  simp only at h0 h1 h2
  simp only [stA, tabA, spA, show ((0 : UInt8).toNat : Int) = 0 from rfl, show ((0 : Nat) : Int) = 0 from rfl] at HHA HBL HB0 ⊢
  have HNO : Hid (Al.NoneR A R (sk, sx, sy, so, sf) o) := ⟨fun e => absurd e h0, fun e => absurd e h1, fun e => absurd e h2⟩
  have g0 : ((sk : Int) == 0) = false := by rw [beq_eq_false_iff_ne]; omega
  have g1 : ((sk : Int) == 1) = false := by rw [beq_eq_false_iff_ne]; omega
  have g2 : ((sk : Int) == 2) = false := by rw [beq_eq_false_iff_ne]; omega
  clear HB0 h0 h1 h2
  go_enter Try.func104, Try.ntmps104
  go_wp2_with fail
  exact bodyPost_ret (v := .tuple #[.agg (spA ((0, 0, 0, 0, 0), 0, (0, 0, 0, 0, 0), 0)), .bool false]) (by simp [results, Try.results104, go_sem, spA]) rfl ⟨⟨_, false, rfl, fun h => (by cases h), fun _ => HNO.out⟩, (((Below.refl _ _).alloc (Nat.le_refl _) _).alloc (by simp) _).alloc (by simp; omega) _⟩

theorem stepBy_any (A : List Al.St) (R : Al.Rw) (st : Al.St) (o : UInt8) (v : Value) (w : World) (hr : RdA w v A) (hs : A.length ≤ 100000) (hR : Al.OkR R) :
    Calls Try.prog 104 #[.agg (tabA R), .agg (stA st), .int .u8 (o.toNat : Nat), v] w fun e w' => StepAns A R st o e ∧ Below w.heap.size w w' := by
  by_cases h0 : st.1 = 0
  · exact stepBy_0 A R st o v w hr hs hR h0
  by_cases h1 : st.1 = 1
  · exact stepBy_1 A R st o v w hr hs hR h1
  by_cases h2 : st.1 = 2
  · exact stepBy_2 A R st o v w hr hs hR h2
  · exact stepBy_3 A R st o v w hr hs hR h0 h1 h2
end Go.Proofs.Ytmjlcajcobbcgab
