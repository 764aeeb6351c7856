import Derived.Test.YtmjlcajcobbcgabXl
import Derived.Deep.MidRow
namespace Go.Proofs.Ytmjlcajcobbcgab
open Go.RowKit

theorem name_lt {c : UInt8} (h : Al.vB c.toNat = true) : Al.vi c < 12 ∧ 97 ≤ c.toNat := by
  have := v_bd h; unfold Al.vi; omega
theorem points_yes {A : List Al.St} {l f : List UInt8} {R Q : Al.Rw} (hn : 0 ≤ varN A l) (hf : fieldOk f = true) (hR : Al.OkR R) (hQ : Al.OkR Q) (h1 : ∀ a o, o < 12 → Al.tbOf R a o = Al.leastP A f a o) (h2 : ∀ a o, o < 12 → Al.tbOf Q a o = Al.leastP A Al.allF a o) :
    pointsP A l f = (textR (Al.rowAt R (nameB l).toNat), ((Al.rowAt R (nameB l).toNat : Int) == (Al.rowAt Q (nameB l).toNat : Int)), 0) := by
  obtain ⟨hv, hb⟩ := varN_name hn
  obtain ⟨h3, h4⟩ := name_lt hb
  unfold pointsP
  rw [if_neg (by omega), if_neg (by rw [hf]; simp), hv, Int.toNat_natCast, ← setOf_congr (h1 (Al.vi (nameB l))), ← setOf_congr (h2 (Al.vi (nameB l))), setOf_tb h3, setOf_tb h3, Al.rowAt_vi h3 h4, Al.rowAt_vi h3 h4, textR_beq (hR _ h3) (hQ _ h3)]
theorem bs_all6 : (bs Al.allF) = { data := #[48, 49, 50, 51, 52, 53] } := rfl

theorem cell_keep {w w' : World} {b o : Nat} {v : Value} (hb : Below w.heap.size w w') (h : w.cell? ⟨b, o, none⟩ = some v) : w'.cell? ⟨b, o, none⟩ = some v := cell_below hb h (World.block_lt_of_cell? w _ h)
theorem of_below (R : Al.Rw) (c : Nat) (w : World) (hc : c ≤ 255) : Calls Try.prog 38 #[.agg (tabA R), .int .u8 c] w fun e w' => e = .returned (.int .i64 (Al.rowAt R c : Nat)) ∧ Below w.heap.size w w' :=
  (of_any R c w hc).mono fun e w' ⟨h1, h2⟩ => ⟨h1, by subst h2; exact (Below.refl _ _).alloc (Nat.le_refl _) _⟩

set_option maxRecDepth 100000 in
set_option maxHeartbeats 2000000 in
theorem aPoints_any (b : Nat) (A : List Al.St) (l f : List UInt8) (w : World) (hS : ASess w b A) (hA : Al.Good A) (hsm : A.length ≤ 24) (hf : f.length ≤ 9223372036854775807) :
    Calls Try.prog 13 #[.pointer (some ⟨b, 0, none⟩), .string (bs l), .string (bs f)] w fun e w' =>
      e = .returned (.tuple #[.string (bs (pointsP A l f).1), .bool (pointsP A l f).2.1, .int .i64 ((pointsP A l f).2.2 : Nat)]) ∧ Below w.heap.size w w' := by
  obtain ⟨v, hv, hr⟩ := hS.ex
  have hcv := cell_of_one hv
  have hlb := lt_of_block hv
  have HRN := hid (readName_any A l v w hA.1 hr (by omega))
  have HFT := hid (fun wx => isFields_any f wx hf)
  have HR := hid hr
  by_cases hn : 0 ≤ varN A l
  · rw [show decide (0 ≤ varN A l) = true from by simpa using hn] at HRN
    have HN := hid hn
    cases hfo : fieldOk f with
    | false =>
      have HPP : Hid (pointsP A l f = ([], false, 6)) := by unfold Hid pointsP; rw [if_neg (by omega), if_pos hfo]
      rw [hfo] at HFT
      clear hn hfo hr hv hS
      go_enter Try.func13, Try.ntmps13
      go_wp2_with (go_at_call 34; refine HRN.out.mono ?_; rintro e w1 ⟨rfl, hb1⟩)
      refine (HFT.out _).mono ?_
      rintro e w2 ⟨rfl, n2, rfl⟩
      go_wp2_with fail
      go_ret3
      exact ⟨by rw [HPP.out]; rfl, ⟨hb1.os, hb1.tape, hb1.output, hb1.size, hb1.block⟩⟩
    | true =>
      rw [hfo] at HFT
      have HFO := hid hfo
      have HL1 := hid (fun wx (h : RdA wx v A) => leastTable_any A f v wx hA.1 h (by omega) hf)
      have HL2 := hid (fun wx (h : RdA wx v A) => leastTable_any A Al.allF v wx hA.1 h (by omega) (by decide))
      rw [bs_all6] at HL2
      have hnb : (nameB l).toNat ≤ 255 := by have := (nameB l).toNat_lt; omega
      have HPY := hid (fun R Q hR hQ h1 h2 => points_yes (R := R) (Q := Q) hn hfo hR hQ h1 h2)
      clear hn hfo hr hv hS
      go_enter Try.func13, Try.ntmps13
      go_wp2_with (go_at_call 34; refine HRN.out.mono ?_; rintro e w1 ⟨rfl, hb1⟩)
      refine (HFT.out _).mono ?_
      rintro e w2 ⟨rfl, n2, hw2⟩
      have hB2 : Below w.heap.size w w2 := by rw [hw2]; exact ⟨hb1.os, hb1.tape, hb1.output, hb1.size, hb1.block⟩
      clear hw2
      have hc2 := cell_below hB2 hcv hlb
      have HR2 := hid (HR.out.below hB2)
      have HB2 := hid hB2
      clear hB2 hb1
      go_wp2_with fail
      refine (HL1.out _ HR2.out).mono ?_
      rintro e w3 ⟨R, rfl, hR3, hT3, hb3⟩
      have hB3 := HB2.out.trans (hb3.mono HB2.out.size)
      have hc3 := cell_below hB3 hcv hlb
      have HR3 := hid (HR.out.below hB3)
      have HB3 := hid hB3
      have HF3 := hid (And.intro hR3 hT3)
      have hs3 := hB3.size
      have hq3 : b < w3.heap.size := Nat.lt_of_lt_of_le hlb hs3
      clear hb3 hc2 hR3 hT3 hB3
      have HO1 := hid (fun wx => of_below R (nameB l).toNat wx hnb)
      simp only [tabA] at HO1 ⊢
      go_wp2_with fail
      have hnew := heap_alloc_new w3 (.cells (tabA R) 75)
      have hB4 := HB3.out.alloc hs3 (.cells (tabA R) 75)
      simp only [show tabA R = #[.int .i64 ↑(R 0), .int .i64 ↑(R 1), .int .i64 ↑(R 2), .int .i64 ↑(R 3), .int .i64 ↑(R 4), .int .i64 ↑(R 5), .int .i64 ↑(R 6), .int .i64 ↑(R 7), .int .i64 ↑(R 8), .int .i64 ↑(R 9), .int .i64 ↑(R 10), .int .i64 ↑(R 11)] from rfl] at hnew hB4
      generalize w3.alloc (.cells #[.int .i64 ↑(R 0), .int .i64 ↑(R 1), .int .i64 ↑(R 2), .int .i64 ↑(R 3), .int .i64 ↑(R 4), .int .i64 ↑(R 5), .int .i64 ↑(R 6), .int .i64 ↑(R 7), .int .i64 ↑(R 8), .int .i64 ↑(R 9), .int .i64 ↑(R 10), .int .i64 ↑(R 11)] 75) = W4 at *
      refine (HL2.out _ (HR.out.below hB4)).mono ?_
      rintro e w5 ⟨Q, rfl, hR5, hT5, hb5⟩
      have hB5 := hB4.trans (hb5.mono hB4.size)
      have hT : w5.heap[w3.heap.size]? = some (.cells (tabA R) 75 (0, 0)) := by rw [hb5.block _ (lt_of_block hnew)]; exact hnew
      obtain ⟨t0, t1, t2, t3, t4, t5, t6, t7, t8, t9, t10, t11⟩ := tab12 hT
      have hl5 := lt_of_block hT
      have hPY := HPY.out R Q HF3.out.1 hR5 HF3.out.2 hT5
      have htx := Al.rowAt_ok HF3.out.1 (nameB l).toNat
      have HPZ := hid hPY
      have HB5 := hid hB5
      have HO2 := hid (fun wx => of_below Q (nameB l).toNat wx hnb)
      have HTX := hid (fun wx => sitesText_any (Al.rowAt R (nameB l).toNat) wx htx)
      have hs5 := hB5.size
      clear hnew hB4 hb5 hB5 hT hPY hR5 hT5 hc3 htx
      simp only [tabA] at HO2 ⊢
      go_wp2_with fail
      have hnw := heap_alloc_new w5 (.cells (tabA Q) 75)
      have hB6 := HB5.out.alloc hs5 (.cells (tabA Q) 75)
      simp only [show tabA Q = #[.int .i64 ↑(Q 0), .int .i64 ↑(Q 1), .int .i64 ↑(Q 2), .int .i64 ↑(Q 3), .int .i64 ↑(Q 4), .int .i64 ↑(Q 5), .int .i64 ↑(Q 6), .int .i64 ↑(Q 7), .int .i64 ↑(Q 8), .int .i64 ↑(Q 9), .int .i64 ↑(Q 10), .int .i64 ↑(Q 11)] from rfl] at hnw hB6
      generalize w5.alloc (.cells #[.int .i64 ↑(Q 0), .int .i64 ↑(Q 1), .int .i64 ↑(Q 2), .int .i64 ↑(Q 3), .int .i64 ↑(Q 4), .int .i64 ↑(Q 5), .int .i64 ↑(Q 6), .int .i64 ↑(Q 7), .int .i64 ↑(Q 8), .int .i64 ↑(Q 9), .int .i64 ↑(Q 10), .int .i64 ↑(Q 11)] 75) = W6 at *
      refine (HO1.out _).mono ?_
      rintro e w7 ⟨rfl, hb7⟩
      have hT : w7.heap[w5.heap.size]? = some (.cells (tabA Q) 75 (0, 0)) := by rw [hb7.block _ (lt_of_block hnw)]; exact hnw
      clear t0 t1 t2 t3 t4 t5 t6 t7 t8 t9 t10 t11
      obtain ⟨t0, t1, t2, t3, t4, t5, t6, t7, t8, t9, t10, t11⟩ := tab12 hT
      have HB7 := hid (hB6.trans (hb7.mono hB6.size))
      clear hb7 hB6 hnw hT
      generalize Al.rowAt R (nameB l).toNat = r1 at *
      generalize Al.rowAt Q (nameB l).toNat = r2 at *
      go_wp2_with fail
      go_region_held3 (fun w' => w'.cell? ⟨w5.heap.size, 0, none⟩ = some (.int .i64 ↑(Q 0)) ∧ w'.cell? ⟨w5.heap.size, 1, none⟩ = some (.int .i64 ↑(Q 1)) ∧ w'.cell? ⟨w5.heap.size, 2, none⟩ = some (.int .i64 ↑(Q 2)) ∧ w'.cell? ⟨w5.heap.size, 3, none⟩ = some (.int .i64 ↑(Q 3)) ∧ w'.cell? ⟨w5.heap.size, 4, none⟩ = some (.int .i64 ↑(Q 4)) ∧ w'.cell? ⟨w5.heap.size, 5, none⟩ = some (.int .i64 ↑(Q 5)) ∧ w'.cell? ⟨w5.heap.size, 6, none⟩ = some (.int .i64 ↑(Q 6)) ∧ w'.cell? ⟨w5.heap.size, 7, none⟩ = some (.int .i64 ↑(Q 7)) ∧ w'.cell? ⟨w5.heap.size, 8, none⟩ = some (.int .i64 ↑(Q 8)) ∧ w'.cell? ⟨w5.heap.size, 9, none⟩ = some (.int .i64 ↑(Q 9)) ∧ w'.cell? ⟨w5.heap.size, 10, none⟩ = some (.int .i64 ↑(Q 10)) ∧ w'.cell? ⟨w5.heap.size, 11, none⟩ = some (.int .i64 ↑(Q 11))) (first | exact ⟨t0, t1, t2, t3, t4, t5, t6, t7, t8, t9, t10, t11⟩ | (go_split_ands; exact ⟨cell_keep hbY (by assumption), cell_keep hbY (by assumption), cell_keep hbY (by assumption), cell_keep hbY (by assumption), cell_keep hbY (by assumption), cell_keep hbY (by assumption), cell_keep hbY (by assumption), cell_keep hbY (by assumption), cell_keep hbY (by assumption), cell_keep hbY (by assumption), cell_keep hbY (by assumption), cell_keep hbY (by assumption)⟩) | (go_split_ands; exact ⟨cell_keep hbX (by assumption), cell_keep hbX (by assumption), cell_keep hbX (by assumption), cell_keep hbX (by assumption), cell_keep hbX (by assumption), cell_keep hbX (by assumption), cell_keep hbX (by assumption), cell_keep hbX (by assumption), cell_keep hbX (by assumption), cell_keep hbX (by assumption), cell_keep hbX (by assumption), cell_keep hbX (by assumption)⟩)) ((first | (go_at_call 39; refine (HTX.out _).mono ?_; rintro e wA ⟨rfl, hbX⟩) | (go_at_call 38; refine (HO2.out _).mono ?_; rintro e wB ⟨rfl, hbY⟩)))
      have hB8 := HB7.out.drew.trans (hbX.mono HB7.out.drew.size)
      have HB9 := hid (hB8.trans (hbY.mono hB8.size))
      clear hB8 hbX hbY t0 t1 t2 t3 t4 t5 t6 t7 t8 t9 t10 t11
      go_wp2_with fail
      go_ret3
      exact ⟨by rw [HPZ.out]; rfl, HB9.out⟩
  · have HPP : Hid (pointsP A l f = ([], false, 5)) := by unfold Hid pointsP; rw [if_pos (by omega)]
    rw [show decide (0 ≤ varN A l) = false from by simpa using hn] at HRN
    clear hn hr hv hS
    go_enter Try.func13, Try.ntmps13
    go_wp2_with (go_at_call 34; refine HRN.out.mono ?_; rintro e w1 ⟨rfl, hb1⟩)
    go_ret3
    exact ⟨by rw [HPP.out]; rfl, hb1⟩
end Go.Proofs.Ytmjlcajcobbcgab

namespace Go.Proofs.Ytmjlcajcobbcgab
open Go.RowKit

theorem meet_tb {A : List Al.St} {f : List UInt8} {R : Al.Rw} {c d : UInt8} (hc : Al.vB c.toNat = true) (hd : Al.vB d.toNat = true) (hR : Al.OkR R) (h1 : ∀ a o, o < 12 → Al.tbOf R a o = Al.leastP A f a o) :
    Al.meetR R c.toNat d.toNat = Al.meetT (Al.leastP A f) (Al.vi c) (Al.vi d) := by
  obtain ⟨h3, h4⟩ := name_lt hc
  obtain ⟨h5, h6⟩ := name_lt hd
  rw [Al.meetR_eq hR h3 h4 h5 h6, meet_congr h1]
theorem alias_yes {A : List Al.St} {l r f : List UInt8} {R Q : Al.Rw} (hn : 0 ≤ varN A l) (hm : 0 ≤ varN A r) (hf : fieldOk f = true) (hR : Al.OkR R) (hQ : Al.OkR Q) (h1 : ∀ a o, o < 12 → Al.tbOf R a o = Al.leastP A f a o) (h2 : ∀ a o, o < 12 → Al.tbOf Q a o = Al.leastP A Al.allF a o) :
    aliasP A l r f = (Al.meetR R (nameB l).toNat (nameB r).toNat, (Al.meetR R (nameB l).toNat (nameB r).toNat == Al.meetR Q (nameB l).toNat (nameB r).toNat), 0) := by
  obtain ⟨hv, hb⟩ := varN_name hn
  obtain ⟨hv2, hb2⟩ := varN_name hm
  unfold aliasP
  rw [if_neg (by omega), if_neg (by rw [hf]; simp), hv, hv2, Int.toNat_natCast, Int.toNat_natCast, meet_tb hb hb2 hR h1, meet_tb hb hb2 hQ h2]

set_option maxRecDepth 100000 in
set_option maxHeartbeats 2000000 in
theorem aAlias_any (b : Nat) (A : List Al.St) (l r f : List UInt8) (w : World) (hS : ASess w b A) (hA : Al.Good A) (hsm : A.length ≤ 24) (hf : f.length ≤ 9223372036854775807) :
    Calls Try.prog 44 #[.pointer (some ⟨b, 0, none⟩), .string (bs l), .string (bs r), .string (bs f)] w fun e w' =>
      e = .returned (.tuple #[.bool (aliasP A l r f).1, .bool (aliasP A l r f).2.1, .int .i64 ((aliasP A l r f).2.2 : Nat)]) ∧ Below w.heap.size w w' := by
  obtain ⟨v, hv, hr⟩ := hS.ex
  have hcv := cell_of_one hv
  have hlb := lt_of_block hv
  have HRN := hid (readName_any A l v w hA.1 hr (by omega))
  have HRM := hid (fun wx (h : RdA wx v A) => readName_any A r v wx hA.1 h (by omega))
  have HFT := hid (fun wx => isFields_any f wx hf)
  have HR := hid hr
  by_cases hn : 0 ≤ varN A l
  · rw [show decide (0 ≤ varN A l) = true from by simpa using hn] at HRN
    by_cases hm : 0 ≤ varN A r
    · rw [show decide (0 ≤ varN A r) = true from by simpa using hm] at HRM
      cases hfo : fieldOk f with
      | false =>
        have HPP : Hid (aliasP A l r f = (false, false, 6)) := by unfold Hid aliasP; rw [if_neg (by omega), if_pos hfo]
        rw [hfo] at HFT
        clear hn hm hfo hr hv hS
        go_enter Try.func44, Try.ntmps44
        go_wp2_with fail
        refine HRN.out.mono ?_
        rintro e w1 ⟨rfl, hb1⟩
        have hc1 := cell_below hb1 hcv hlb
        have HB1 := hid hb1
        clear hb1
        go_wp2_with fail
        refine (HRM.out _ (HR.out.below HB1.out)).mono ?_
        rintro e w2 ⟨rfl, hb2⟩
        have hB2 := HB1.out.trans (hb2.mono HB1.out.size)
        clear hb2 hc1
        go_wp2_with fail
        refine (HFT.out _).mono ?_
        rintro e w3 ⟨rfl, n2, rfl⟩
        go_wp2_with fail
        go_ret3
        exact ⟨by rw [HPP.out]; rfl, ⟨hB2.os, hB2.tape, hB2.output, hB2.size, hB2.block⟩⟩
      | true =>
        rw [hfo] at HFT
        have HL1 := hid (fun wx (h : RdA wx v A) => leastTable_any A f v wx hA.1 h (by omega) hf)
        have HL2 := hid (fun wx (h : RdA wx v A) => leastTable_any A Al.allF v wx hA.1 h (by omega) (by decide))
        rw [bs_all6] at HL2
        have hnb : (nameB l).toNat ≤ 255 := by have := (nameB l).toNat_lt; omega
        have hnr : (nameB r).toNat ≤ 255 := by have := (nameB r).toNat_lt; omega
        have HPY := hid (fun R Q hR hQ h1 h2 => alias_yes (R := R) (Q := Q) hn hm hfo hR hQ h1 h2)
        clear hn hm hfo hr hv hS
        go_enter Try.func44, Try.ntmps44
        go_wp2_with fail
        refine HRN.out.mono ?_
        rintro e w1 ⟨rfl, hb1⟩
        have hc1 := cell_below hb1 hcv hlb
        have HB1 := hid hb1
        clear hb1
        go_wp2_with fail
        refine (HRM.out _ (HR.out.below HB1.out)).mono ?_
        rintro e w2 ⟨rfl, hb2⟩
        have hB2 := HB1.out.trans (hb2.mono HB1.out.size)
        clear hb2 hc1
        go_wp2_with fail
        refine (HFT.out _).mono ?_
        rintro e w3 ⟨rfl, n2, hw3⟩
        have hB3 : Below w.heap.size w w3 := by rw [hw3]; exact ⟨hB2.os, hB2.tape, hB2.output, hB2.size, hB2.block⟩
        clear hw3 hB2
        have hc3 := cell_below hB3 hcv hlb
        have HB3 := hid hB3
        clear hB3
        go_wp2_with fail
        refine (HL1.out _ (HR.out.below HB3.out)).mono ?_
        rintro e w4 ⟨R, rfl, hR4, hT4, hb4⟩
        have hB4 := HB3.out.trans (hb4.mono HB3.out.size)
        have hc4 := cell_below hB4 hcv hlb
        have HB4 := hid hB4
        have hs4 := hB4.size
        have hq4 : b < w4.heap.size := Nat.lt_of_lt_of_le hlb hs4
        have HM1 := hid (fun wx => meet_any R (nameB l).toNat (nameB r).toNat wx hnb hnr hR4)
        have HF4 := hid (And.intro hR4 hT4)
        clear hb4 hc3 hR4 hT4 hB4
        simp only [tabA] at HM1 ⊢
        go_wp2_with fail
        have hnew := heap_alloc_new w4 (.cells (tabA R) 75)
        have hB5 := HB4.out.alloc hs4 (.cells (tabA R) 75)
        simp only [show tabA R = #[.int .i64 ↑(R 0), .int .i64 ↑(R 1), .int .i64 ↑(R 2), .int .i64 ↑(R 3), .int .i64 ↑(R 4), .int .i64 ↑(R 5), .int .i64 ↑(R 6), .int .i64 ↑(R 7), .int .i64 ↑(R 8), .int .i64 ↑(R 9), .int .i64 ↑(R 10), .int .i64 ↑(R 11)] from rfl] at hnew hB5
        generalize w4.alloc (.cells #[.int .i64 ↑(R 0), .int .i64 ↑(R 1), .int .i64 ↑(R 2), .int .i64 ↑(R 3), .int .i64 ↑(R 4), .int .i64 ↑(R 5), .int .i64 ↑(R 6), .int .i64 ↑(R 7), .int .i64 ↑(R 8), .int .i64 ↑(R 9), .int .i64 ↑(R 10), .int .i64 ↑(R 11)] 75) = W5 at *
        refine (HL2.out _ (HR.out.below hB5)).mono ?_
        rintro e w6 ⟨Q, rfl, hR6, hT6, hb6⟩
        have hB6 := hB5.trans (hb6.mono hB5.size)
        have hT : w6.heap[w4.heap.size]? = some (.cells (tabA R) 75 (0, 0)) := by rw [hb6.block _ (lt_of_block hnew)]; exact hnew
        obtain ⟨t0, t1, t2, t3, t4, t5, t6, t7, t8, t9, t10, t11⟩ := tab12 hT
        have hl6 := lt_of_block hT
        have HPZ := hid (HPY.out R Q HF4.out.1 hR6 HF4.out.2 hT6)
        have HM2 := hid (fun wx => meet_any Q (nameB l).toNat (nameB r).toNat wx hnb hnr hR6)
        have HB6 := hid hB6
        have hs6 := hB6.size
        clear hnew hB5 hb6 hB6 hT hR6 hT6 hc4
        simp only [tabA] at HM2 ⊢
        go_wp2_with fail
        have hnw := heap_alloc_new w6 (.cells (tabA Q) 75)
        have hB7 := HB6.out.alloc hs6 (.cells (tabA Q) 75)
        simp only [show tabA Q = #[.int .i64 ↑(Q 0), .int .i64 ↑(Q 1), .int .i64 ↑(Q 2), .int .i64 ↑(Q 3), .int .i64 ↑(Q 4), .int .i64 ↑(Q 5), .int .i64 ↑(Q 6), .int .i64 ↑(Q 7), .int .i64 ↑(Q 8), .int .i64 ↑(Q 9), .int .i64 ↑(Q 10), .int .i64 ↑(Q 11)] from rfl] at hnw hB7
        generalize w6.alloc (.cells #[.int .i64 ↑(Q 0), .int .i64 ↑(Q 1), .int .i64 ↑(Q 2), .int .i64 ↑(Q 3), .int .i64 ↑(Q 4), .int .i64 ↑(Q 5), .int .i64 ↑(Q 6), .int .i64 ↑(Q 7), .int .i64 ↑(Q 8), .int .i64 ↑(Q 9), .int .i64 ↑(Q 10), .int .i64 ↑(Q 11)] 75) = W7 at *
        refine (HM1.out _).mono ?_
        rintro e w8 ⟨rfl, hb8⟩
        have hT : w8.heap[w6.heap.size]? = some (.cells (tabA Q) 75 (0, 0)) := by rw [hb8.block _ (lt_of_block hnw)]; exact hnw
        clear t0 t1 t2 t3 t4 t5 t6 t7 t8 t9 t10 t11
        obtain ⟨t0, t1, t2, t3, t4, t5, t6, t7, t8, t9, t10, t11⟩ := tab12 hT
        have HB8 := hid (hB7.trans (hb8.mono hB7.size))
        clear hb8 hB7 hnw hT
        generalize Al.meetR R (nameB l).toNat (nameB r).toNat = r1 at *
        generalize Al.meetR Q (nameB l).toNat (nameB r).toNat = r2 at *
        go_wp2_with fail
        refine (HM2.out _).mono ?_
        rintro e w9 ⟨rfl, hb9⟩
        have HB9 := hid (HB8.out.trans (hb9.mono HB8.out.size))
        clear hb9 t0 t1 t2 t3 t4 t5 t6 t7 t8 t9 t10 t11
        go_wp2_with fail
        go_ret3
        exact ⟨by rw [HPZ.out]; rfl, HB9.out⟩
    · have HPP : Hid (aliasP A l r f = (false, false, 5)) := by unfold Hid aliasP; rw [if_pos (.inr (by omega))]
      rw [show decide (0 ≤ varN A r) = false from by simpa using hm] at HRM
      clear hn hm hr hv hS
      go_enter Try.func44, Try.ntmps44
      go_wp2_with fail
      refine HRN.out.mono ?_
      rintro e w1 ⟨rfl, hb1⟩
      have hc1 := cell_below hb1 hcv hlb
      have HB1 := hid hb1
      clear hb1
      go_wp2_with fail
      refine (HRM.out _ (HR.out.below HB1.out)).mono ?_
      rintro e w2 ⟨rfl, hb2⟩
      have hB2 := HB1.out.trans (hb2.mono HB1.out.size)
      clear hb2 hc1
      go_wp2_with fail
      go_ret3
      exact ⟨by rw [HPP.out]; rfl, hB2⟩
  · have HPP : Hid (aliasP A l r f = (false, false, 5)) := by unfold Hid aliasP; rw [if_pos (.inl (by omega))]
    rw [show decide (0 ≤ varN A l) = false from by simpa using hn] at HRN
    generalize decide (0 ≤ varN A r) = B2 at *
    clear hn hr hv hS
    go_enter Try.func44, Try.ntmps44
    go_wp2_with fail
    refine HRN.out.mono ?_
    rintro e w1 ⟨rfl, hb1⟩
    have hc1 := cell_below hb1 hcv hlb
    have HB1 := hid hb1
    clear hb1
    go_wp2_with fail
    refine (HRM.out _ (HR.out.below HB1.out)).mono ?_
    rintro e w2 ⟨rfl, hb2⟩
    have hB2 := HB1.out.trans (hb2.mono HB1.out.size)
    clear hb2 hc1
    go_wp2_with fail
    go_ret3
    exact ⟨by rw [HPP.out]; rfl, hB2⟩
end Go.Proofs.Ytmjlcajcobbcgab

namespace Go.Proofs.Ytmjlcajcobbcgab
open Go.RowKit

theorem varByte_toNat {k : Nat} (h : k < 12) : (varByte k).toNat = 97 + k := by unfold varByte; simp; omega
theorem varByte_ok {k : Nat} (h : k < 12) : Al.vB (varByte k).toNat = true ∧ Al.vi (varByte k) = k := by
  have e := varByte_toNat h
  refine ⟨?_, ?_⟩
  · simp [Al.vB, e]; omega
  · unfold Al.vi; omega

/-- 'out = append(out, x, y)', both boxed in a new block. -/
theorem append_two {P : Program} {ops : Array Oper} {rest : List Oper} {o : Oper} {a : Act} {Q : Exit → Act → World → Prop} {w0 wb : World} (hgd : o.guard = none) (s x : Operand) (t : TypeId)
    (ho : o.op = .call { callee := .builtin .append, args := #[s, x], argTypes := #[t, t] })
    (base : Nat) (e : TypeId) (i : TypeInfo) (z : Value) (ht : P.underlying t = some (.slice e)) (hi : P.info? e = some i) (hz : i.zero = some z)
    (hsize : i.size = 1) (hby : i.bytes = 1) (hzs : z.cells.size = 1)
    (v : Value) (n : Nat) (xs : List Value) (hs : a.eval s = v) (hown : wb.ownsRow base e 1 v n xs) (cur : Array Value) (hcur : cur.size = 2) (h1 : ∀ u ∈ cur.toList, u.oneCell' = true)
    (hx : a.eval x = .slice (some ⟨wb.heap.size, 0, none⟩) 2 2) (hn : n + 2 ≤ 2000000) (hbase : base ≤ wb.heap.size) (hbel : Below base w0 wb)
    (h : ∀ v' w', w'.ownsRow base e 1 v' (n + 2) (xs ++ cur.toList) → Below base w0 w' → wpList P ops Q rest (a.put o.dst v') w') : wpList P ops Q (o :: rest) a (wb.alloc (.cells cur e)) := by
  refine wpList_append_own _ hgd s x t ho base e i z 1 1 ht hi hz hsize hby hzs (by decide) v n xs hs (hown.alloc _) ⟨wb.heap.size, 0, none⟩ 2 2 cur.toList hx (by simpa using hcur) ?_ h1 ?_ ?_ ?_ ?_
  · intro j u hj
    have hadd : (⟨wb.heap.size, 0, none⟩ : Addr).add j = ⟨wb.heap.size, j, none⟩ := by unfold Addr.add; split <;> simp_all
    rw [hadd, cell_of_row (wb.alloc (.cells cur e)) wb.heap.size j cur e (0, 0) (heap_alloc_new wb _)]
    simpa using hj
  · simp only [maxLen]; omega
  · exact Nat.le_trans (Nat.mul_le_mul hn (Nat.le_refl 1)) (by decide)
  · simp; omega
  · intro v' w' h2 h3 _
    refine h v' w' h2 ((hbel.alloc hbase _).grown h3 (by simp; omega) ?_)
    intro k hk
    exact (hown.lt k hk).1

set_option maxRecDepth 100000 in
set_option maxHeartbeats 2000000 in
theorem aBatch_any (b : Nat) (A : List Al.St) (w : World) (hS : ASess w b A) (hA : Al.Good A) (hsm : A.length ≤ 24) :
    Calls Try.prog 20 #[.pointer (some ⟨b, 0, none⟩)] w fun e w' => e = .returned (.string (bs (batchP A))) ∧ Below w.heap.size w w' := by
  obtain ⟨i0, hi, hz0, hz1, hz2⟩ := info_parts Try.info5
  obtain ⟨v, hv, hr⟩ := hS.ex
  have hcv := cell_of_one hv
  have hlb := lt_of_block hv
  have HR := hid hr
  have HL2 := hid (fun wx (h : RdA wx v A) => leastTable_any A Al.allF v wx hA.1 h (by omega) (by decide))
  rw [bs_all6] at HL2
  have HNA := hid (fun c wx (h : RdA wx v A) => names_any A c v wx hA.1 h (by omega))
  have HBP : Hid (batchP A = batchTo A 12) := rfl
  clear hr hv hS
  go_enter Try.func20, Try.ntmps20
  go_wp2_with fail
  refine (HL2.out _ HR.out).mono ?_
  rintro e w1 ⟨Q, rfl, hR1, hT1, hb1⟩
  have hnew := heap_alloc_new w1 (.cells (tabA Q) 75)
  have hB2 := hb1.alloc hb1.size (.cells (tabA Q) 75)
  have HQ := hid hR1
  have HTT := hid hT1
  have HOF := hid (fun (q : Nat) (hq : q ≤ 255) wx => of_below Q q wx hq)
  have HTX := hid (fun (q : Nat) wx => sitesText_any (Al.rowAt Q q) wx (Al.rowAt_ok hR1 q))
  have hs1 := hb1.size
  clear hR1 hT1 hb1
  simp only [tabA] at HOF ⊢
  simp only [show tabA Q = #[.int .i64 ↑(Q 0), .int .i64 ↑(Q 1), .int .i64 ↑(Q 2), .int .i64 ↑(Q 3), .int .i64 ↑(Q 4), .int .i64 ↑(Q 5), .int .i64 ↑(Q 6), .int .i64 ↑(Q 7), .int .i64 ↑(Q 8), .int .i64 ↑(Q 9), .int .i64 ↑(Q 10), .int .i64 ↑(Q 11)] from rfl] at hnew hB2
  go_wp2_with fail
  generalize w1.alloc (.cells #[.int .i64 ↑(Q 0), .int .i64 ↑(Q 1), .int .i64 ↑(Q 2), .int .i64 ↑(Q 3), .int .i64 ↑(Q 4), .int .i64 ↑(Q 5), .int .i64 ↑(Q 6), .int .i64 ↑(Q 7), .int .i64 ↑(Q 8), .int .i64 ↑(Q 9), .int .i64 ↑(Q 10), .int .i64 ↑(Q 11)] 75) = W2 at *
  have HN2 := hid hnew
  have HB2 := hid hB2
  clear hnew hB2
  have HS2 : Hid (w.heap.size ≤ W2.heap.size) := HB2.out.size
  go_loopw [4, 5] (fun o i wr => ∃ k : Nat, k ≤ 12 ∧ i = .int .u8 ((97 + k : Nat) : Int) ∧ wr.ownsRow W2.heap.size 5 1 o (batchTo A k).length ((batchTo A k).map bv) ∧ Below W2.heap.size W2 wr) (fun _ i _ => 109 - (intOf i).toNat)
  case atStart => exact ⟨0, by omega, rfl, World.ownsRow_nil _ _ _ _, Below.refl _ _⟩
  case round =>
    obtain ⟨k, hk, rfl, hown, hbel⟩ := hrel
    have hbw := HB2.out.trans (hbel.mono HS2.out)
    have hsz := hbel.size
    have hlen := batch_len A k
    by_cases hlt : k < 12
    · have HBS := hid (batch_succ A k)
      generalize batchTo A k = L at *
      have hc := cell_below hbw hcv hlb
      have hN := HNA.out (varByte k) wr (HR.out.below hbw)
      rw [(varByte_ok hlt).1, (varByte_ok hlt).2, varByte_toNat hlt, Bool.true_and] at hN
      have hq : 97 + k ≤ 108 := by omega
      have hq2 : 97 + k ≤ 255 := by omega
      cases en : namedP A k with
      | true =>
        rw [en] at hN
        have HN := hid hN
        have HR2 : Hid (batchTo A (k + 1) = L ++ itemP (Al.leastP A Al.allF) k) := by rw [Hid, HBS.out, if_pos en]
        have hrow : Al.rowAt Q (97 + k) = Q k := by unfold Al.rowAt; rw [if_pos ⟨by omega, by omega⟩]; congr 1; omega
        have HIT : Hid (itemP (Al.leastP A Al.allF) k = [varByte k, 58] ++ textR (Al.rowAt Q (97 + k)) ++ [59]) := by unfold Hid itemP; rw [← setOf_congr (HTT.out k), setOf_tb hlt, hrow]
        have hxl : (textR (Al.rowAt Q (97 + k))).length ≤ 12 := textTo_len _ 12
        have HO1 := hid (fun wx => HOF.out (97 + k) hq2 wx)
        have HT1 := hid (fun wx => HTX.out (97 + k) wx)
        generalize textR (Al.rowAt Q (97 + k)) = X at *
        generalize Al.rowAt Q (97 + k) = r1 at *
        have HOW := hid hown
        have HBL := hid hbel
        have hVB : bv (varByte k) = .int .u8 (97 + (k : Int)) := by unfold bv; rw [varByte_toNat hlt]; rfl
        have HVB := hid hVB
        clear hVB en hN hrow hbw hown hbel
        go_wp2_with fail
        refine HN.out.mono ?_
        rintro e w3 ⟨rfl, hb3⟩
        have hB3 := HBL.out.trans (hb3.mono HBL.out.size)
        have hO3 := ownsRow_below HOW.out hb3
        have hT3 : w3.heap[w1.heap.size]? = some (.cells (tabA Q) 75 (0, 0)) := by rw [hB3.block _ (lt_of_block HN2.out)]; exact HN2.out
        obtain ⟨t0, t1, t2, t3, t4, t5, t6, t7, t8, t9, t10, t11⟩ := tab12 hT3
        have HB3 := hid hB3
        have HO3 := hid hO3
        clear hb3 hB3 hO3 hT3 hc
        go_wp2_with fail
        refine (HO1.out _).mono ?_
        rintro e w4 ⟨rfl, hb4⟩
        have HB4 := hid (HB3.out.trans (hb4.mono HB3.out.size))
        have HO4 := hid (ownsRow_below HO3.out hb4)
        clear hb4 t0 t1 t2 t3 t4 t5 t6 t7 t8 t9 t10 t11
        go_wp2_with fail
        refine (HT1.out _).mono ?_
        rintro e w5 ⟨rfl, hb5⟩
        have hB5 := HB4.out.trans (hb5.mono HB4.out.size)
        have hO5 := ownsRow_below HO4.out hb5
        have hs5 := hB5.size
        have hbX : (bs X).size = X.length := rfl
        clear hb5
        go_wp2_with (at_builtin; first | (refine append_two (w0 := W2) rfl (.tmp 28) (.tmp 30) 71 rfl W2.heap.size 5 i0 (.int .u8 0) Try.underlying71 hi hz0 hz1 hz2 rfl _ L.length (L.map bv) rfl hO5 #[.int .u8 (97 + (k : Int)), .int .u8 58] rfl (by simp [Value.oneCell']) rfl (by omega) hs5 hB5 ?_; intro v6 w6 hO6 hB6; have hs6 := hB6.size; clear hO5 hB5 hs5) | (refine Lib.wpList_append_own_string _ rfl (.tmp 32) (.tmp 33) 71 9 rfl W2.heap.size 5 i0 Try.underlying71 Try.underlying9 hi hz0 hz1 hz2 _ (L.length + 2) _ rfl hO6 (bs X) rfl (by rw [hbX]; unfold maxLen; omega) (by rw [hbX]; omega) hs6 ?_; intro v7 w7 hO7 hgr7 _; have hB7 := hB6.grown hgr7 hs6 (fun q hq => (hO6.lt q hq).1); have hs7 := hB7.size; clear hO6 hB6 hs6 hgr7) | (refine append_new (w0 := W2) rfl (.tmp 35) (.tmp 36) 71 rfl W2.heap.size 5 i0 (.int .u8 0) 1 1 Try.underlying71 hi hz0 hz1 hz2 rfl (by decide) _ _ _ rfl hO7 #[.int .u8 59] rfl (by simp [Value.oneCell']) rfl (by first | omega | (rw [hbX]; omega)) (by decide) hs7 hB7 ?_; intro v8 w8 hO8 hB8; clear hO7 hB7 hs7))
        have hst : Lib.strCells (bs X) = X.map bv := rfl
        have h59 : bv 59 = .int .u8 59 := rfl
        have h58 : bv 58 = .int .u8 58 := rfl
        have HE1 : Hid ((L ++ ([varByte k, 58] ++ X ++ [59])).length = L.length + 2 + (bs X).size + 1) := by unfold Hid; rw [hbX]; simp; omega
        have HE2 : Hid ((L ++ ([varByte k, 58] ++ X ++ [59])).map bv = List.map bv L ++ #[Value.int .u8 (97 + (k : Int)), .int .u8 58].toList ++ Lib.strCells (bs X) ++ #[Value.int .u8 59].toList) := by unfold Hid; rw [hst]; simp [HVB.out, h58, h59]
        go_roundw
        case rel => exact ⟨k + 1, by omega, by go_num, by rw [HR2.out, HIT.out, HE1.out, HE2.out]; exact hO8, hB8⟩
        case measure => simp [intOf]; omega
      | false =>
        rw [en] at hN
        have HN := hid hN
        have HR2 : Hid (batchTo A (k + 1) = L) := by rw [Hid, HBS.out, if_neg (by rw [en]; simp)]; simp
        clear en hN hbw
        go_wp2_with (go_at_call 46; refine HN.out.mono ?_; rintro e w3 ⟨rfl, hb3⟩)
        go_roundw
        case rel => exact ⟨k + 1, by omega, by go_num, by rw [HR2.out]; exact ownsRow_below hown hb3, hbel.trans (hb3.mono hsz)⟩
        case measure => simp [intOf]; omega
    · have hk12 : k = 12 := by omega
      subst hk12
      have hcv2 := convert_any hown
      clear hown
      go_wp2
      go_ret
      exact ⟨by rw [HBP.out]; rfl, hbw⟩
end Go.Proofs.Ytmjlcajcobbcgab
