import Derived.Test.YtljafkdaljkanaaProgH
namespace Go.Proofs.Ytljafkdaljkanaa
open Go.RowKit

/-- The program's session in memory. -/
structure ASess (w : World) (b : Nat) (A : List Al.St) : Prop where
  ex : ∃ v, w.heap[b]? = some (.cells #[v] 70 (0, 0)) ∧ RdA w v A

theorem ASess.below {w w' : World} {b : Nat} {A : List Al.St} (h : ASess w b A) (hb : Below w.heap.size w w') : ASess w' b A := by
  obtain ⟨v, h1, h2⟩ := h.ex
  exact ⟨v, by rw [hb.block b (lt_of_block h1)]; exact h1, h2.below hb⟩
theorem ASess.set {w w' : World} {b : Nat} {v v' : Value} {A : List Al.St} (h : w.heap[b]? = some (.cells #[v] 70 (0, 0))) (hb : Below w.heap.size w w') (ho : w'.ownsRow w.heap.size 72 5 v' A.length (flat A)) :
    ASess (w'.setCell ⟨b, 0, none⟩ v') b A := by
  have h1 := lt_of_block h
  exact ⟨v', one_setCell (by rw [hb.block b h1]; exact h), ownsRow_zero (ownsRow_setCell_below ho h1 v')⟩

set_option maxHeartbeats 400000 in
theorem aLoad_any (b : Nat) (A : List Al.St) (s : ByteArray) (w : World) (hs : s.size ≤ maxLen) (hS : ASess w b A) :
    Calls Try.prog 38 #[.pointer (some ⟨b, 0, none⟩), .string s] w fun e w' => e = .returned (.tuple #[.int .i64 ((Al.loadP s.data.toList).1 : Nat), .int .i64 ((Al.loadP s.data.toList).2.1 : Nat)]) ∧
      ASess w' b (chLoad s.data.toList A) ∧ w.grownBy w' (some b) := by
  obtain ⟨v, hv, hr⟩ := hS.ex
  unfold maxLen at hs
  have HSZ : Hid (s.data.toList.length = s.size) := rfl
  by_cases h1 : 200 < s.size
  · have HF : Hid (Al.loadP s.data.toList = (1, 0, [])) := by rw [Hid, Al.loadP, if_pos (by rw [HSZ.out]; omega)]
    have HC : Hid (chLoad s.data.toList A = A) := by rw [Hid, chLoad, HF.out, if_neg (by simp)]
    go_enter Try.func38, Try.ntmps38
    go_wp2
    go_ret2
    exact ⟨by rw [HF.out]; rfl, by rw [HC.out]; exact hS, grown_of_below (Below.refl _ _) _⟩
  · have HRP := hid (readProgram_any s w (by omega))
    obtain ⟨⟨A', p, ok⟩, hP⟩ : ∃ P, Al.parse s.data.toList s.data.toList.length 0 [] = P := ⟨_, rfl⟩
    rw [hP] at HRP
    cases ok with
    | false =>
      have HF : Hid (Al.loadP s.data.toList = (2, p, [])) := by rw [Hid, Al.loadP, if_neg (by rw [HSZ.out]; omega), hP, if_pos rfl]
      have HC : Hid (chLoad s.data.toList A = A) := by rw [Hid, chLoad, HF.out, if_neg (by simp)]
      clear hP
      go_enter Try.func38, Try.ntmps38
      go_wp2_with fail
      refine HRP.out.mono ?_
      rintro e w1 ⟨v1, rfl, hown, hbel⟩
      go_wp2_with fail
      go_ret2
      exact ⟨by rw [HF.out]; rfl, by rw [HC.out]; exact hS.below hbel, grown_of_below hbel _⟩
    | true =>
      by_cases hf : 24 < A'.length
      · have HF : Hid (Al.loadP s.data.toList = (3, 0, [])) := by rw [Hid, Al.loadP, if_neg (by rw [HSZ.out]; omega), hP, if_neg (by simp), if_pos hf]
        have HC : Hid (chLoad s.data.toList A = A) := by rw [Hid, chLoad, HF.out, if_neg (by simp)]
        clear hP
        go_enter Try.func38, Try.ntmps38
        go_wp2_with fail
        refine HRP.out.mono ?_
        rintro e w1 ⟨v1, rfl, hown, hbel⟩
        obtain ⟨ao, c1, rfl⟩ := ownsRow_slice hown
        go_wp2_with fail
        go_ret2
        exact ⟨by rw [HF.out]; rfl, by rw [HC.out]; exact hS.below hbel, grown_of_below hbel _⟩
      · have HF : Hid (Al.loadP s.data.toList = (0, 0, A')) := by rw [Hid, Al.loadP, if_neg (by rw [HSZ.out]; omega), hP, if_neg (by simp), if_neg hf]
        have HC : Hid (chLoad s.data.toList A = A') := by rw [Hid, chLoad, HF.out, if_pos rfl]
        clear hP
        go_enter Try.func38, Try.ntmps38
        go_wp2_with fail
        refine HRP.out.mono ?_
        rintro e w1 ⟨v1, rfl, hown, hbel⟩
        obtain ⟨ao, c1, rfl⟩ := ownsRow_slice hown
        have hv1 : w1.heap[b]? = some (.cells #[v] 70 (0, 0)) := by rw [hbel.block b (lt_of_block hv)]; exact hv
        have hc := cell_of_one hv1
        have hfr := free_of_one hv1
        have R1 := hid (And.intro (ASess.set hv hbel hown) (grown_set (b := b) hbel (.slice ao A'.length c1)))
        clear hown hbel hv1
        go_wp2_with fail
        go_ret2
        exact ⟨by rw [HF.out]; rfl, by rw [HC.out]; exact R1.out.1, R1.out.2⟩


set_option maxRecDepth 100000 in
set_option maxHeartbeats 1000000 in
theorem aAdd_any (b : Nat) (A : List Al.St) (s : ByteArray) (w : World) (hs : s.size ≤ maxLen) (hS : ASess w b A) (hl : A.length ≤ 24) :
    Calls Try.prog 34 #[.pointer (some ⟨b, 0, none⟩), .string s] w fun e w' => e = .returned (.tuple #[.int .i64 ((addE s.data.toList A).1 : Nat), .int .i64 ((addE s.data.toList A).2 : Nat)]) ∧
      ASess w' b (chAdd s.data.toList A) ∧ w.grownBy w' (some b) := by
  obtain ⟨v, hv, hr⟩ := hS.ex
  have hlb := lt_of_block hv
  have HONE := hid (readSingle_any s w hs)
  by_cases he : (Al.oneP s.data.toList).1 = 0
  · have hp := Al.one_zero he
    have hst : oneSt s.data.toList = theSt s.data.toList := by rw [oneSt, if_pos he]
    rw [hp, hst] at HONE
    have HWI := hid (fun v wx hr => with_any A (theSt s.data.toList) v wx hr (by omega))
    by_cases hf : 24 < (Al.withP A (theSt s.data.toList)).length
    · have HE : Hid (addE s.data.toList A = (3, 0)) := by rw [Hid, addE, if_pos he, if_pos hf]
      have HC : Hid (chAdd s.data.toList A = A) := by rw [Hid, chAdd, HE.out, if_neg (by simp)]
      generalize Al.withP A (theSt s.data.toList) = A' at *
      generalize theSt s.data.toList = st at *
      obtain ⟨rk, rx, ry, ro, rf⟩ := st
      simp only [stA] at HONE HWI
      clear he hp hst
      go_enter Try.func34, Try.ntmps34
      go_wp2_with fail
      refine HONE.out.mono ?_
      rintro e w1 ⟨rfl, hbel1⟩
      go_wp2_with fail
      have hbw : Below w.heap.size w (w1.alloc (.cells (stA (rk, rx, ry, ro, rf)) 72)) := hbel1.alloc hbel1.size _
      have hblk : (w1.alloc (.cells (stA (rk, rx, ry, ro, rf)) 72)).heap[w1.heap.size]? = some (.cells (stA (rk, rx, ry, ro, rf)) 72 (0, 0)) := heap_alloc_new w1 _
      simp only [stA] at hbw hblk
      generalize w1.alloc (Obj.cells #[.int .i64 ↑rk, .int .u8 ↑rx.toNat, .int .u8 ↑ry.toNat, .int .u8 ↑ro.toNat, .int .u8 ↑rf.toNat] 72) = W1 at *
      generalize w1.heap.size = N at *
      have hvW : W1.heap[b]? = some (.cells #[v] 70 (0, 0)) := by rw [hbw.block b hlb]; exact hv
      have hrW : RdA W1 v A := hr.below hbw
      have hcb := cell_of_one hvW
      obtain ⟨c0, c1, c2, c3, c4⟩ := st_cells (k := rk) (x := rx) (y := ry) (o := ro) (f := rf) hblk
      have hNl := lt_of_block hblk
      have hbl := lt_of_block hvW
      have HBW := hid hbw
      have HVW := hid hvW
      have HRW := hid hrW
      clear hbel1 hblk hbw hvW hrW hr
      go_region_held3 (fun w' => w'.cell? ⟨b, 0, none⟩ = some v ∧ w'.cell? ⟨N, 0, none⟩ = some (.int .i64 ↑rk) ∧ w'.cell? ⟨N, 1, none⟩ = some (.int .u8 ↑rx.toNat) ∧ w'.cell? ⟨N, 2, none⟩ = some (.int .u8 ↑ry.toNat) ∧ w'.cell? ⟨N, 3, none⟩ = some (.int .u8 ↑ro.toNat) ∧ w'.cell? ⟨N, 4, none⟩ = some (.int .u8 ↑rf.toNat)) (go_keep)
        ((go_at_call 61; refine (HWI.out _ _ (by exact HRW.out)).mono ?_; rintro e w2 ⟨v2, rfl, hown2, hbel2⟩; have kb := cell_below hbel2 hcb hbl; have k0 := cell_below hbel2 c0 hNl; have k1 := cell_below hbel2 c1 hNl; have k2 := cell_below hbel2 c2 hNl; have k3 := cell_below hbel2 c3 hNl; have k4 := cell_below hbel2 c4 hNl))
      have hB2 : Below W1.heap.size W1 w2 := ⟨hbel2.os, hbel2.tape, hbel2.output, hbel2.size, hbel2.block⟩
      have hO2 : w2.ownsRow W1.heap.size 72 5 v2 A'.length (flat A') := hown2
      have hBW2 := HBW.out.trans (hB2.mono HBW.out.size)
      have hown3 : w2.ownsRow w.heap.size 72 5 v2 A'.length (flat A') := ownsRow_base hO2 HBW.out.size
      obtain ⟨ao, cc, rfl⟩ := ownsRow_slice hO2
      clear hown2 hbel2 hB2 hO2 kb k0 k1 k2 k3 k4 c0 c1 c2 c3 c4 hcb
      go_wp2_with fail
      go_ret2
      exact ⟨by rw [HE.out]; rfl, by rw [HC.out]; exact hS.below hBW2, grown_of_below hBW2 _⟩
    · have HE : Hid (addE s.data.toList A = (0, 0)) := by rw [Hid, addE, if_pos he, if_neg hf]
      have HC : Hid (chAdd s.data.toList A = Al.withP A (theSt s.data.toList)) := by rw [Hid, chAdd, HE.out, if_pos rfl]
      generalize Al.withP A (theSt s.data.toList) = A' at *
      generalize theSt s.data.toList = st at *
      obtain ⟨rk, rx, ry, ro, rf⟩ := st
      simp only [stA] at HONE HWI
      clear he hp hst
      go_enter Try.func34, Try.ntmps34
      go_wp2_with fail
      refine HONE.out.mono ?_
      rintro e w1 ⟨rfl, hbel1⟩
      go_wp2_with fail
      have hbw : Below w.heap.size w (w1.alloc (.cells (stA (rk, rx, ry, ro, rf)) 72)) := hbel1.alloc hbel1.size _
      have hblk : (w1.alloc (.cells (stA (rk, rx, ry, ro, rf)) 72)).heap[w1.heap.size]? = some (.cells (stA (rk, rx, ry, ro, rf)) 72 (0, 0)) := heap_alloc_new w1 _
      simp only [stA] at hbw hblk
      generalize w1.alloc (Obj.cells #[.int .i64 ↑rk, .int .u8 ↑rx.toNat, .int .u8 ↑ry.toNat, .int .u8 ↑ro.toNat, .int .u8 ↑rf.toNat] 72) = W1 at *
      generalize w1.heap.size = N at *
      have hvW : W1.heap[b]? = some (.cells #[v] 70 (0, 0)) := by rw [hbw.block b hlb]; exact hv
      have hrW : RdA W1 v A := hr.below hbw
      have hcb := cell_of_one hvW
      obtain ⟨c0, c1, c2, c3, c4⟩ := st_cells (k := rk) (x := rx) (y := ry) (o := ro) (f := rf) hblk
      have hNl := lt_of_block hblk
      have hbl := lt_of_block hvW
      have HBW := hid hbw
      have HVW := hid hvW
      have HRW := hid hrW
      clear hbel1 hblk hbw hvW hrW hr
      go_region_held3 (fun w' => w'.cell? ⟨b, 0, none⟩ = some v ∧ w'.cell? ⟨N, 0, none⟩ = some (.int .i64 ↑rk) ∧ w'.cell? ⟨N, 1, none⟩ = some (.int .u8 ↑rx.toNat) ∧ w'.cell? ⟨N, 2, none⟩ = some (.int .u8 ↑ry.toNat) ∧ w'.cell? ⟨N, 3, none⟩ = some (.int .u8 ↑ro.toNat) ∧ w'.cell? ⟨N, 4, none⟩ = some (.int .u8 ↑rf.toNat)) (go_keep)
        ((go_at_call 61; refine (HWI.out _ _ (by exact HRW.out)).mono ?_; rintro e w2 ⟨v2, rfl, hown2, hbel2⟩; have kb := cell_below hbel2 hcb hbl; have k0 := cell_below hbel2 c0 hNl; have k1 := cell_below hbel2 c1 hNl; have k2 := cell_below hbel2 c2 hNl; have k3 := cell_below hbel2 c3 hNl; have k4 := cell_below hbel2 c4 hNl))
      have hB2 : Below W1.heap.size W1 w2 := ⟨hbel2.os, hbel2.tape, hbel2.output, hbel2.size, hbel2.block⟩
      have hO2 : w2.ownsRow W1.heap.size 72 5 v2 A'.length (flat A') := hown2
      have hBW2 := HBW.out.trans (hB2.mono HBW.out.size)
      have hown3 : w2.ownsRow w.heap.size 72 5 v2 A'.length (flat A') := ownsRow_base hO2 HBW.out.size
      obtain ⟨ao, cc, rfl⟩ := ownsRow_slice hO2
      clear hown2 hbel2 hB2 hO2 kb k0 k1 k2 k3 k4 c0 c1 c2 c3 c4 hcb
      have hv2 : w2.heap[b]? = some (.cells #[v] 70 (0, 0)) := by rw [hBW2.block b hlb]; exact hv
      have hc2 := cell_of_one hv2
      have hf2 := free_of_one hv2
      have R1 := hid (And.intro (ASess.set hv hBW2 hown3) (grown_set (b := b) hBW2 (.slice ao A'.length cc)))
      clear hv2 hBW2 hown3
      go_wp2_with fail
      go_ret2
      exact ⟨by rw [HE.out]; rfl, by rw [HC.out]; exact R1.out.1, R1.out.2⟩
  · have HE : Hid (addE s.data.toList A = Al.oneP s.data.toList) := by rw [Hid, addE, if_neg he]
    have HC : Hid (chAdd s.data.toList A = A) := by rw [Hid, chAdd, HE.out, if_neg he]
    generalize Al.oneP s.data.toList = r at *
    obtain ⟨er, pl⟩ := r
    simp only at he
    have hb : ((er : Int) != 0) = true := by simpa using he
    generalize oneSt s.data.toList = st at *
    obtain ⟨rk, rx, ry, ro, rf⟩ := st
    simp only [stA] at HONE
    go_enter Try.func34, Try.ntmps34
    go_wp2_with fail
    refine HONE.out.mono ?_
    rintro e w1 ⟨rfl, hbel1⟩
    go_wp2_with fail
    go_ret2
    exact ⟨by rw [HE.out]; rfl, by rw [HC.out]; exact hS.below (hbel1.alloc hbel1.size _), grown_of_below (hbel1.alloc hbel1.size _) _⟩

set_option maxRecDepth 100000 in
set_option maxHeartbeats 1000000 in
theorem aDrop_any (b : Nat) (A : List Al.St) (s : ByteArray) (w : World) (hs : s.size ≤ maxLen) (hS : ASess w b A) (hA : Al.Good A) (hl : A.length ≤ 24) :
    Calls Try.prog 36 #[.pointer (some ⟨b, 0, none⟩), .string s] w fun e w' => e = .returned (.tuple #[.int .i64 ((dropE s.data.toList A).1 : Nat), .int .i64 ((dropE s.data.toList A).2 : Nat)]) ∧
      ASess w' b (chDrop s.data.toList A) ∧ w.grownBy w' (some b) := by
  obtain ⟨v, hv, hr⟩ := hS.ex
  have hlb := lt_of_block hv
  have HONE := hid (readSingle_any s w hs)
  by_cases he : (Al.oneP s.data.toList).1 = 0
  · have hp := Al.one_zero he
    have hwf : Al.Wf (theSt s.data.toList) := (Al.one_yes he).2.1
    have hdl := Al.dropP_len hA.1 hwf
    have hdle := Al.dropP_le A (theSt s.data.toList)
    have hst : oneSt s.data.toList = theSt s.data.toList := by rw [oneSt, if_pos he]
    rw [hp, hst] at HONE
    have HWI := hid (fun v wx hr => without_any A (theSt s.data.toList) v wx hr (by omega))
    obtain ⟨vo, vc, rfl⟩ := ownsRow_slice hr
    by_cases hf : (Al.dropP A (theSt s.data.toList)).length = A.length
    · have HE : Hid (dropE s.data.toList A = (4, 0)) := by rw [Hid, dropE, if_pos he, if_pos (hdl.1 hf)]
      have HC : Hid (chDrop s.data.toList A = A) := by rw [Hid, chDrop, HE.out, if_neg (by simp)]
      clear hdl hwf hdle
      generalize Al.dropP A (theSt s.data.toList) = A' at *
      generalize theSt s.data.toList = st at *
      obtain ⟨rk, rx, ry, ro, rf⟩ := st
      simp only [stA] at HONE HWI
      clear he hp hst
      go_enter Try.func36, Try.ntmps36
      go_wp2_with fail
      refine HONE.out.mono ?_
      rintro e w1 ⟨rfl, hbel1⟩
      go_wp2_with fail
      have hbw : Below w.heap.size w (w1.alloc (.cells (stA (rk, rx, ry, ro, rf)) 72)) := hbel1.alloc hbel1.size _
      have hblk : (w1.alloc (.cells (stA (rk, rx, ry, ro, rf)) 72)).heap[w1.heap.size]? = some (.cells (stA (rk, rx, ry, ro, rf)) 72 (0, 0)) := heap_alloc_new w1 _
      simp only [stA] at hbw hblk
      generalize w1.alloc (Obj.cells #[.int .i64 ↑rk, .int .u8 ↑rx.toNat, .int .u8 ↑ry.toNat, .int .u8 ↑ro.toNat, .int .u8 ↑rf.toNat] 72) = W1 at *
      generalize w1.heap.size = N at *
      have hvW : W1.heap[b]? = some (.cells #[.slice vo A.length vc] 70 (0, 0)) := by rw [hbw.block b hlb]; exact hv
      have hrW : RdA W1 (.slice vo A.length vc) A := hr.below hbw
      have hcb := cell_of_one hvW
      obtain ⟨c0, c1, c2, c3, c4⟩ := st_cells (k := rk) (x := rx) (y := ry) (o := ro) (f := rf) hblk
      have hNl := lt_of_block hblk
      have hbl := lt_of_block hvW
      have HBW := hid hbw
      have HVW := hid hvW
      have HRW := hid hrW
      clear hbel1 hblk hbw hvW hrW hr
      go_region_held3 (fun w' => w'.cell? ⟨b, 0, none⟩ = some (.slice vo A.length vc) ∧ w'.cell? ⟨N, 0, none⟩ = some (.int .i64 ↑rk) ∧ w'.cell? ⟨N, 1, none⟩ = some (.int .u8 ↑rx.toNat) ∧ w'.cell? ⟨N, 2, none⟩ = some (.int .u8 ↑ry.toNat) ∧ w'.cell? ⟨N, 3, none⟩ = some (.int .u8 ↑ro.toNat) ∧ w'.cell? ⟨N, 4, none⟩ = some (.int .u8 ↑rf.toNat)) (go_keep)
        ((go_at_call 62; refine (HWI.out _ _ (by exact HRW.out)).mono ?_; rintro e w2 ⟨v2, rfl, hown2, hbel2⟩; have kb := cell_below hbel2 hcb hbl; have k0 := cell_below hbel2 c0 hNl; have k1 := cell_below hbel2 c1 hNl; have k2 := cell_below hbel2 c2 hNl; have k3 := cell_below hbel2 c3 hNl; have k4 := cell_below hbel2 c4 hNl))
      have hB2 : Below W1.heap.size W1 w2 := ⟨hbel2.os, hbel2.tape, hbel2.output, hbel2.size, hbel2.block⟩
      have hO2 : w2.ownsRow W1.heap.size 72 5 v2 A'.length (flat A') := hown2
      have hBW2 := HBW.out.trans (hB2.mono HBW.out.size)
      have hown3 : w2.ownsRow w.heap.size 72 5 v2 A'.length (flat A') := ownsRow_base hO2 HBW.out.size
      obtain ⟨ao, cc, rfl⟩ := ownsRow_slice hO2
      clear hown2 hbel2 hB2 hO2 k0 k1 k2 k3 k4 c0 c1 c2 c3 c4
      have hlen : ((A'.length : Int) == (A.length : Int)) = true := by simp [hf]
      have HFL := hid hf
      clear hf hcb
      go_wp2_with fail
      go_ret2
      exact ⟨by rw [HE.out]; rfl, by rw [HC.out]; exact hS.below hBW2, grown_of_below hBW2 _⟩
    · have HE : Hid (dropE s.data.toList A = (0, 0)) := by rw [Hid, dropE, if_pos he, if_neg (fun h => hf (hdl.2 h))]
      have HC : Hid (chDrop s.data.toList A = Al.dropP A (theSt s.data.toList)) := by rw [Hid, chDrop, HE.out, if_pos rfl]
      clear hdl hwf
      generalize Al.dropP A (theSt s.data.toList) = A' at *
      generalize theSt s.data.toList = st at *
      obtain ⟨rk, rx, ry, ro, rf⟩ := st
      simp only [stA] at HONE HWI
      clear he hp hst
      go_enter Try.func36, Try.ntmps36
      go_wp2_with fail
      refine HONE.out.mono ?_
      rintro e w1 ⟨rfl, hbel1⟩
      go_wp2_with fail
      have hbw : Below w.heap.size w (w1.alloc (.cells (stA (rk, rx, ry, ro, rf)) 72)) := hbel1.alloc hbel1.size _
      have hblk : (w1.alloc (.cells (stA (rk, rx, ry, ro, rf)) 72)).heap[w1.heap.size]? = some (.cells (stA (rk, rx, ry, ro, rf)) 72 (0, 0)) := heap_alloc_new w1 _
      simp only [stA] at hbw hblk
      generalize w1.alloc (Obj.cells #[.int .i64 ↑rk, .int .u8 ↑rx.toNat, .int .u8 ↑ry.toNat, .int .u8 ↑ro.toNat, .int .u8 ↑rf.toNat] 72) = W1 at *
      generalize w1.heap.size = N at *
      have hvW : W1.heap[b]? = some (.cells #[.slice vo A.length vc] 70 (0, 0)) := by rw [hbw.block b hlb]; exact hv
      have hrW : RdA W1 (.slice vo A.length vc) A := hr.below hbw
      have hcb := cell_of_one hvW
      obtain ⟨c0, c1, c2, c3, c4⟩ := st_cells (k := rk) (x := rx) (y := ry) (o := ro) (f := rf) hblk
      have hNl := lt_of_block hblk
      have hbl := lt_of_block hvW
      have HBW := hid hbw
      have HVW := hid hvW
      have HRW := hid hrW
      clear hbel1 hblk hbw hvW hrW hr
      go_region_held3 (fun w' => w'.cell? ⟨b, 0, none⟩ = some (.slice vo A.length vc) ∧ w'.cell? ⟨N, 0, none⟩ = some (.int .i64 ↑rk) ∧ w'.cell? ⟨N, 1, none⟩ = some (.int .u8 ↑rx.toNat) ∧ w'.cell? ⟨N, 2, none⟩ = some (.int .u8 ↑ry.toNat) ∧ w'.cell? ⟨N, 3, none⟩ = some (.int .u8 ↑ro.toNat) ∧ w'.cell? ⟨N, 4, none⟩ = some (.int .u8 ↑rf.toNat)) (go_keep)
        ((go_at_call 62; refine (HWI.out _ _ (by exact HRW.out)).mono ?_; rintro e w2 ⟨v2, rfl, hown2, hbel2⟩; have kb := cell_below hbel2 hcb hbl; have k0 := cell_below hbel2 c0 hNl; have k1 := cell_below hbel2 c1 hNl; have k2 := cell_below hbel2 c2 hNl; have k3 := cell_below hbel2 c3 hNl; have k4 := cell_below hbel2 c4 hNl))
      have hB2 : Below W1.heap.size W1 w2 := ⟨hbel2.os, hbel2.tape, hbel2.output, hbel2.size, hbel2.block⟩
      have hO2 : w2.ownsRow W1.heap.size 72 5 v2 A'.length (flat A') := hown2
      have hBW2 := HBW.out.trans (hB2.mono HBW.out.size)
      have hown3 : w2.ownsRow w.heap.size 72 5 v2 A'.length (flat A') := ownsRow_base hO2 HBW.out.size
      obtain ⟨ao, cc, rfl⟩ := ownsRow_slice hO2
      clear hown2 hbel2 hB2 hO2 k0 k1 k2 k3 k4 c0 c1 c2 c3 c4
      have hlen : ((A'.length : Int) == (A.length : Int)) = false := beq_eq_false_iff_ne.2 (by omega)
      clear hf hcb
      have hv2 : w2.heap[b]? = some (.cells #[.slice vo A.length vc] 70 (0, 0)) := by rw [hBW2.block b hlb]; exact hv
      have hc2 := cell_of_one hv2
      have hf2 := free_of_one hv2
      have R1 := hid (And.intro (ASess.set hv hBW2 hown3) (grown_set (b := b) hBW2 (.slice ao A'.length cc)))
      clear hv2 hBW2 hown3
      go_wp2_with fail
      go_ret2
      exact ⟨by rw [HE.out]; rfl, by rw [HC.out]; exact R1.out.1, R1.out.2⟩
  · have HE : Hid (dropE s.data.toList A = Al.oneP s.data.toList) := by rw [Hid, dropE, if_neg he]
    have HC : Hid (chDrop s.data.toList A = A) := by rw [Hid, chDrop, HE.out, if_neg he]
    generalize Al.oneP s.data.toList = r at *
    obtain ⟨er, pl⟩ := r
    simp only at he
    have hb : ((er : Int) != 0) = true := by simpa using he
    generalize oneSt s.data.toList = st at *
    obtain ⟨rk, rx, ry, ro, rf⟩ := st
    simp only [stA] at HONE
    go_enter Try.func36, Try.ntmps36
    go_wp2_with fail
    refine HONE.out.mono ?_
    rintro e w1 ⟨rfl, hbel1⟩
    go_wp2_with fail
    go_ret2
    exact ⟨by rw [HE.out]; rfl, by rw [HC.out]; exact hS.below (hbel1.alloc hbel1.size _), grown_of_below (hbel1.alloc hbel1.size _) _⟩
end Go.Proofs.Ytljafkdaljkanaa
