import Derived.Test.YtmjlcajcobbcgabXzb
import Derived.Test.YtmjlcajcobbcgabXz
import Derived.Test.YtmjlcajcobbcgabXw
import Derived.Test.YtmjlcajcobbcgabXy
namespace Go.Proofs.Ytmjlcajcobbcgab
open Go.RowKit

theorem keep_drop {L : List Al.Sp} {m : Nat} (h : m < L.length) (f0 : Al.Fc) : Al.keepP (L.drop m) f0 = Al.keepStep L[m] (Al.keepP (L.drop (m + 1)) f0) := by
  rw [List.drop_eq_getElem_cons h, Al.keepP_cons]
theorem goes_at {A : List Al.St} {L : List Al.Sp} (h : Al.Goes2 A L) {m : Nat} (hm : m < L.length) : Al.OkSp A L[m] := (h.1 _ _ _ (split_at hm)).1
/-- What holds at the head of each round of reasonFor: the steps from j on are done. -/
structure Back2 (A : List Al.St) (L : List Al.Sp) (f0 : Al.Fc) (j : Nat) (N : Al.Rw) (t : List UInt8) : Prop where
  tells : Al.Tells N (Al.keepP (L.drop j) f0).2
  text : t = catS (Al.keepP (L.drop j) f0).1
theorem Back2.len {A : List Al.St} {L : List Al.Sp} {f0 : Al.Fc} {j : Nat} {N : Al.Rw} {t : List UInt8} (h : Back2 A L f0 j N t) (hl : L.length ≤ 144) : t.length ≤ 2304 := by
  have h1 := catS_le (Al.keepP (L.drop j) f0).1
  have h2 := (Al.keep_sub f0 (L.drop j)).length_le
  rw [List.length_drop] at h2
  rw [h.text]; omega
theorem Back2.skip {A : List Al.St} (hA : ∀ a ∈ A, Al.Wf a) {L : List Al.Sp} (hg : Al.Goes2 A L) {f0 : Al.Fc} {m : Nat} (hm : m < L.length) {N : Al.Rw} {t : List UInt8} (h : Back2 A L f0 (m + 1) N t) (hn : Al.hasR N L[m].1.2.1.toNat L[m].2.1.toNat = false) : Back2 A L f0 m N t := by
  have hok := goes_at hg hm
  have hne : Al.fct L[m] ∉ (Al.keepP (L.drop (m + 1)) f0).2 := fun e => by
    have := (Al.has_tells h.tells (hA _ hok.1).1 hok.2.1).2 e
    rw [hn] at this; cases this
  have hk := keep_drop hm f0
  rw [Al.keepStep, if_neg hne] at hk
  exact ⟨by rw [hk]; exact h.tells, by rw [hk]; exact h.text⟩
theorem Back2.keep {A : List Al.St} (hA : ∀ a ∈ A, Al.Wf a) {L : List Al.Sp} (hg : Al.Goes2 A L) {f0 : Al.Fc} {m : Nat} (hm : m < L.length) {N : Al.Rw} {t : List UInt8} (h : Back2 A L f0 (m + 1) N t) (hn : Al.hasR N L[m].1.2.1.toNat L[m].2.1.toNat = true) : Back2 A L f0 m (Al.needR N L[m]) (Al.txtS L[m] ++ t) := by
  have hok := goes_at hg hm
  have he : Al.fct L[m] ∈ (Al.keepP (L.drop (m + 1)) f0).2 := (Al.has_tells h.tells (hA _ hok.1).1 hok.2.1).1 hn
  have hk := keep_drop hm f0
  rw [Al.keepStep, if_pos he] at hk
  exact ⟨by rw [hk]; exact Al.tells_need hA h.tells hok, by rw [hk, catS_cons, h.text]⟩
theorem Back2.ends {A : List Al.St} (hA : Al.Good A) {L : List Al.Sp} (hg : Al.Goes2 A L) {c d : UInt8} (hm : (c, d) ∈ L.map Al.fct) {N : Al.Rw} {t : List UInt8} (h : Back2 A L (c, d) 0 N t) : t ≠ [] ∧ ∃ m Q, ReasonOf A t c.toNat d.toNat m Q := by
  obtain ⟨h1, M, s, h2, h3⟩ := Al.keep_ok hg hm
  have ht := h.text
  rw [List.drop_zero, h2] at ht
  rw [h2] at h1
  have hr := reason_of hA h1
  rw [← ht] at hr
  simp only [Al.fct, Prod.mk.injEq] at h3
  rw [h3.1, h3.2] at hr
  refine ⟨fun e => ?_, _, _, hr⟩
  have := (hr.step 0 (Nat.zero_le _)).bd
  rw [e] at this
  simp at this
  omega

set_option maxRecDepth 100000 in
set_option maxHeartbeats 8000000 in
theorem reasonFor_any (A : List Al.St) (c d : UInt8) (v : Value) (w : World) (hA : Al.Good A) (hr : RdA w v A) (hs : A.length ≤ 24) (hc : Al.vB c.toNat = true) (hd : Al.oB d.toNat = true) (hl : Al.leastP A Al.allF (Al.vi c) (Al.si d) = true) :
    Calls Try.prog 72 #[v, .int .u8 (c.toNat : Nat), .int .u8 (d.toNat : Nat)] w fun e w' => ∃ t : List UInt8, e = .returned (.string (bs t)) ∧ t ≠ [] ∧ t.length ≤ 1000000 ∧ (∃ m Q, ReasonOf A t c.toNat d.toNat m Q) ∧ Below w.heap.size w w' := by
  have HAS := hid (allSteps_any A v w hA.1 hr (by omega))
  have HA := hid hA
  have HME := hid (fun R L (h : Al.KnowsTo A R L) hn => Al.knows_end hA.1 h hn hc hd hl)
  have HONd := hid (fun wx => only_any d.toNat wx (by have := d.toNat_lt; omega))
  have HP1 := hid (fun wx => plus_any Al.zeroR c.toNat (Al.onlyR d.toNat) wx (by have := c.toNat_lt; omega) (Al.goR_zero [] []).1 (Al.onlyR_ok _))
  have HT0 := hid (Al.tells_plus Al.tells_zero hc hd)
  clear hA hr hs hc hd hl
  generalize Al.onlyR d.toNat = md at *
  generalize Al.plusR Al.zeroR c.toNat md = N0 at *
  simp only [show tabA Al.zeroR = #[.int .i64 0, .int .i64 0, .int .i64 0, .int .i64 0, .int .i64 0, .int .i64 0, .int .i64 0, .int .i64 0, .int .i64 0, .int .i64 0, .int .i64 0, .int .i64 0] from rfl, show tabA N0 = #[.int .i64 ↑(N0 0), .int .i64 ↑(N0 1), .int .i64 ↑(N0 2), .int .i64 ↑(N0 3), .int .i64 ↑(N0 4), .int .i64 ↑(N0 5), .int .i64 ↑(N0 6), .int .i64 ↑(N0 7), .int .i64 ↑(N0 8), .int .i64 ↑(N0 9), .int .i64 ↑(N0 10), .int .i64 ↑(N0 11)] from rfl] at HP1
  go_enter Try.func72, Try.ntmps72
  go_wp2_with fail
  refine HAS.out.mono ?_
  rintro e w1 ⟨u, L, R, rfl, hrp, hkn, hno, hb1⟩
  have HMM := hid (HME.out R L hkn hno)
  have HGO := hid hkn.1
  have hLL := Al.knows_len hkn
  rcases hrp.shape with ⟨rfl, rfl⟩ | ⟨g, cap, rfl, hlc, hcm, hg, hcell⟩
  · exact absurd HMM.out (by simp)
  have HCE := hid hcell
  have HB1 := hid hb1
  have hsw := hb1.size
  clear hrp hkn hno hcell hb1 HAS HME
  have hLi : (L.length : Int) ≤ 144 := by omega
  go_wp2_with fail
  have hnb := heap_alloc_new w1 (.cells #[.int .i64 0, .int .i64 0, .int .i64 0, .int .i64 0, .int .i64 0, .int .i64 0, .int .i64 0, .int .i64 0, .int .i64 0, .int .i64 0, .int .i64 0, .int .i64 0] 75)
  have hbb := (Below.refl w1.heap.size w1).alloc (Nat.le_refl _) (.cells #[.int .i64 0, .int .i64 0, .int .i64 0, .int .i64 0, .int .i64 0, .int .i64 0, .int .i64 0, .int .i64 0, .int .i64 0, .int .i64 0, .int .i64 0, .int .i64 0] 75)
  generalize w1.alloc (.cells #[.int .i64 0, .int .i64 0, .int .i64 0, .int .i64 0, .int .i64 0, .int .i64 0, .int .i64 0, .int .i64 0, .int .i64 0, .int .i64 0, .int .i64 0, .int .i64 0] 75) = W1 at *
  have hnz : W1.heap[w1.heap.size]? = some (.cells (tabA Al.zeroR) 75 (0, 0)) := hnb
  have hl1 := lt_of_block hnz
  obtain ⟨t0, t1, t2, t3, t4, t5, t6, t7, t8, t9, t10, t11⟩ := tab12 hnz
  have HNZ := hid hnz
  have HBB := hid hbb
  clear hnb hnz hbb
  apply wp_merge (fun w' => w'.heap[w1.heap.size]? = some (.cells (tabA N0) 75 (0, 0)) ∧ Below w1.heap.size w1 w')
  case h =>
    go_region_with (first | (go_at_call 70; refine (HONd.out _).mono ?_; rintro e w' ⟨rfl, rfl⟩) | (go_at_call 69; refine (HP1.out _).mono ?_; rintro e w4 ⟨rfl, hb4⟩; have hZ2 : w4.heap[w1.heap.size]? = some (.cells (tabA Al.zeroR) 75 (0, 0)) := (by rw [hb4.block _ (lt_of_block HNZ.out)]; exact HNZ.out); obtain ⟨z0, z1, z2, z3, z4, z5, z6, z7, z8, z9, z10, z11⟩ := tab12 hZ2; obtain ⟨q0, q1, q2, q3, q4, q5, q6, q7, q8, q9, q10, q11⟩ := tab_free hZ2))
    all_goals
      rw [storedT_eq]
      exact ⟨rfl, storedT_block hZ2, storedT_below (HBB.out.trans ((undrew hb4).mono (Nat.le_of_lt hl1))) (Nat.le_refl _)⟩
  clear t0 t1 t2 t3 t4 t5 t6 t7 t8 t9 t10 t11 HNZ HBB
  intro W2 hW2
  have HW2 := hid hW2
  clear hW2
  go_wp2_with fail
  have HBK : Hid (Back2 A L (c, d) L.length N0 []) := ⟨by rw [List.drop_length]; exact HT0.out, by rw [List.drop_length]; rfl⟩
  go_loopw [9, 10] (fun r i wr => ∃ (j : Nat) (N : Al.Rw) (t : List UInt8), j ≤ L.length ∧ r = .string (bs t) ∧ i = .int .i64 ((j : Int) - 1) ∧ Back2 A L (c, d) j N t ∧ wr.heap[w1.heap.size]? = some (.cells (tabA N) 75 (0, 0)) ∧ Below w1.heap.size w1 wr) (fun _ i _ => ((intOf i) + 1).toNat)
  case atStart => exact ⟨L.length, N0, [], Nat.le_refl _, rfl, rfl, HBK.out, HW2.out.1, HW2.out.2⟩
  case round =>
    obtain ⟨j, N, t, hj, rfl, rfl, hbk, htb, hbel⟩ := hrel
    have HBJ := hid hbk
    have hlen := hbk.len hLL
    have HTB := hid htb
    have HBE := hid hbel
    have hok := hbk.tells.1
    have HOK := hid hok
    clear hbk hok HBK HW2
    cases j with
    | zero =>
      have HEN := hid (Back2.ends HA.out HGO.out HMM.out HBJ.out)
      clear htb hbel
      go_wp2_with fail
      go_ret
      exact ⟨t, rfl, HEN.out.1, by omega, HEN.out.2, HB1.out.trans (HBE.out.mono hsw)⟩
    | succ m =>
      have hm : m < L.length := by omega
      have hi0 : (0 : Int) ≤ (m : Int) := by omega
      have hi1 : (m : Int) < (L.length : Int) := by omega
      have HSK := hid (Back2.skip HA.out.1 HGO.out hm HBJ.out)
      have HKE := hid (Back2.keep HA.out.1 HGO.out hm HBJ.out)
      have HCC := hid (HCE.out m hm)
      generalize L[m] = sp at *
      obtain ⟨⟨k1, x1, y1, o1, f1⟩, d1, ⟨k2, x2, y2, o2, f2⟩, p1⟩ := sp
      rw [show (((m + 1 : Nat) : Int) - 1) = (m : Int) from by omega]
      have HHA := hid (fun wx => has_any N x1.toNat d1.toNat wx (by have := x1.toNat_lt; omega) (by have := d1.toNat_lt; omega) HOK.out)
      have HTX := hid (fun wx => spText_any ((k1, x1, y1, o1, f1), d1, (k2, x2, y2, o2, f2), p1) wx)
      have htl := txtS_le ((k1, x1, y1, o1, f1), d1, (k2, x2, y2, o2, f2), p1)
      have HPN := hid (fun wx => plusNeeds_any N ((k1, x1, y1, o1, f1), d1, (k2, x2, y2, o2, f2), p1) wx HOK.out)
      simp only at HSK HKE
      generalize Al.txtS ((k1, x1, y1, o1, f1), d1, (k2, x2, y2, o2, f2), p1) = TX at *
      generalize Al.needR N ((k1, x1, y1, o1, f1), d1, (k2, x2, y2, o2, f2), p1) = N2 at *
      have hsT : (bs TX).size = TX.length := rfl
      have hst : (bs t).size = t.length := rfl
      have hbig : ¬ 9223372036854775807 < TX.length + t.length := by omega
      have hcat := bs_append TX t
      have e0 : wr.cell? ⟨g, m * 12, none⟩ = some (.int .i64 ↑k1) := cell_below HBE.out (HCC.out 0 _ (by decide) rfl) hg
      have e1 : wr.cell? ⟨g, m * 12 + 1, none⟩ = some (.int .u8 ↑x1.toNat) := cell_below HBE.out (HCC.out 1 _ (by decide) rfl) hg
      have e2 : wr.cell? ⟨g, m * 12 + 2, none⟩ = some (.int .u8 ↑y1.toNat) := cell_below HBE.out (HCC.out 2 _ (by decide) rfl) hg
      have e3 : wr.cell? ⟨g, m * 12 + 3, none⟩ = some (.int .u8 ↑o1.toNat) := cell_below HBE.out (HCC.out 3 _ (by decide) rfl) hg
      have e4 : wr.cell? ⟨g, m * 12 + 4, none⟩ = some (.int .u8 ↑f1.toNat) := cell_below HBE.out (HCC.out 4 _ (by decide) rfl) hg
      have e5 : wr.cell? ⟨g, m * 12 + 5, none⟩ = some (.int .u8 ↑d1.toNat) := cell_below HBE.out (HCC.out 5 _ (by decide) rfl) hg
      have e6 : wr.cell? ⟨g, m * 12 + 6, none⟩ = some (.int .i64 ↑k2) := cell_below HBE.out (HCC.out 6 _ (by decide) rfl) hg
      have e7 : wr.cell? ⟨g, m * 12 + 7, none⟩ = some (.int .u8 ↑x2.toNat) := cell_below HBE.out (HCC.out 7 _ (by decide) rfl) hg
      have e8 : wr.cell? ⟨g, m * 12 + 8, none⟩ = some (.int .u8 ↑y2.toNat) := cell_below HBE.out (HCC.out 8 _ (by decide) rfl) hg
      have e9 : wr.cell? ⟨g, m * 12 + 9, none⟩ = some (.int .u8 ↑o2.toNat) := cell_below HBE.out (HCC.out 9 _ (by decide) rfl) hg
      have e10 : wr.cell? ⟨g, m * 12 + 10, none⟩ = some (.int .u8 ↑f2.toNat) := cell_below HBE.out (HCC.out 10 _ (by decide) rfl) hg
      have e11 : wr.cell? ⟨g, m * 12 + 11, none⟩ = some (.int .u8 ↑p1.toNat) := cell_below HBE.out (HCC.out 11 _ (by decide) rfl) hg
      obtain ⟨t0, t1, t2, t3, t4, t5, t6, t7, t8, t9, t10, t11⟩ := tab12 HTB.out
      have hl1' := lt_of_block HTB.out
      clear htb hbel
      simp only [tabA, spA] at HHA HTX HPN
      go_wp2_with fail
      go_region_held3 (fun w' => w'.cell? ⟨g, m * 12 + 1, none⟩ = some (.int .u8 ↑x1.toNat) ∧ w'.cell? ⟨g, m * 12 + 5, none⟩ = some (.int .u8 ↑d1.toNat) ∧ w'.cell? ⟨w1.heap.size, 0, none⟩ = some (.int .i64 ↑(N 0)) ∧ w'.cell? ⟨w1.heap.size, 1, none⟩ = some (.int .i64 ↑(N 1)) ∧ w'.cell? ⟨w1.heap.size, 2, none⟩ = some (.int .i64 ↑(N 2)) ∧ w'.cell? ⟨w1.heap.size, 3, none⟩ = some (.int .i64 ↑(N 3)) ∧ w'.cell? ⟨w1.heap.size, 4, none⟩ = some (.int .i64 ↑(N 4)) ∧ w'.cell? ⟨w1.heap.size, 5, none⟩ = some (.int .i64 ↑(N 5)) ∧ w'.cell? ⟨w1.heap.size, 6, none⟩ = some (.int .i64 ↑(N 6)) ∧ w'.cell? ⟨w1.heap.size, 7, none⟩ = some (.int .i64 ↑(N 7)) ∧ w'.cell? ⟨w1.heap.size, 8, none⟩ = some (.int .i64 ↑(N 8)) ∧ w'.cell? ⟨w1.heap.size, 9, none⟩ = some (.int .i64 ↑(N 9)) ∧ w'.cell? ⟨w1.heap.size, 10, none⟩ = some (.int .i64 ↑(N 10)) ∧ w'.cell? ⟨w1.heap.size, 11, none⟩ = some (.int .i64 ↑(N 11))) (first | exact ⟨e1, e5, t0, t1, t2, t3, t4, t5, t6, t7, t8, t9, t10, t11⟩ | (go_split_ands; exact ⟨cell_keep hb3d (by assumption), cell_keep hb3d (by assumption), cell_keep hb3d (by assumption), cell_keep hb3d (by assumption), cell_keep hb3d (by assumption), cell_keep hb3d (by assumption), cell_keep hb3d (by assumption), cell_keep hb3d (by assumption), cell_keep hb3d (by assumption), cell_keep hb3d (by assumption), cell_keep hb3d (by assumption), cell_keep hb3d (by assumption), cell_keep hb3d (by assumption), cell_keep hb3d (by assumption)⟩)) ((go_at_call 71; refine (HHA.out _).mono ?_; rintro e w3 ⟨rfl, hb3d⟩))
      have hb3 := undrew hb3d
      have HT3 : Hid (w3.heap[w1.heap.size]? = some (.cells (tabA N) 75 (0, 0))) := by rw [Hid, hb3.block _ hl1']; exact HTB.out
      have HB3 := hid (HBE.out.trans (hb3.mono HBE.out.size))
      clear t0 t1 t2 t3 t4 t5 t6 t7 t8 t9 t10 t11 e0 e1 e2 e3 e4 e5 e6 e7 e8 e9 e10 e11 hb3 hb3d
      cases hh : Al.hasR N x1.toNat d1.toNat with
      | false =>
        have HBN := hid (HSK.out hh)
        clear hh
        go_wp2_with fail
        go_roundw
        case rel => exact ⟨m, N, t, by omega, rfl, by go_num, HBN.out, HT3.out, HB3.out⟩
        case measure => first | (simp [intOf]; done) | (simp [intOf]; omega)
      | true =>
        have HBN := hid (HKE.out hh)
        clear hh
        have e0 : w3.cell? ⟨g, m * 12, none⟩ = some (.int .i64 ↑k1) := cell_below HB3.out (HCC.out 0 _ (by decide) rfl) hg
        have e1 : w3.cell? ⟨g, m * 12 + 1, none⟩ = some (.int .u8 ↑x1.toNat) := cell_below HB3.out (HCC.out 1 _ (by decide) rfl) hg
        have e2 : w3.cell? ⟨g, m * 12 + 2, none⟩ = some (.int .u8 ↑y1.toNat) := cell_below HB3.out (HCC.out 2 _ (by decide) rfl) hg
        have e3 : w3.cell? ⟨g, m * 12 + 3, none⟩ = some (.int .u8 ↑o1.toNat) := cell_below HB3.out (HCC.out 3 _ (by decide) rfl) hg
        have e4 : w3.cell? ⟨g, m * 12 + 4, none⟩ = some (.int .u8 ↑f1.toNat) := cell_below HB3.out (HCC.out 4 _ (by decide) rfl) hg
        have e5 : w3.cell? ⟨g, m * 12 + 5, none⟩ = some (.int .u8 ↑d1.toNat) := cell_below HB3.out (HCC.out 5 _ (by decide) rfl) hg
        have e6 : w3.cell? ⟨g, m * 12 + 6, none⟩ = some (.int .i64 ↑k2) := cell_below HB3.out (HCC.out 6 _ (by decide) rfl) hg
        have e7 : w3.cell? ⟨g, m * 12 + 7, none⟩ = some (.int .u8 ↑x2.toNat) := cell_below HB3.out (HCC.out 7 _ (by decide) rfl) hg
        have e8 : w3.cell? ⟨g, m * 12 + 8, none⟩ = some (.int .u8 ↑y2.toNat) := cell_below HB3.out (HCC.out 8 _ (by decide) rfl) hg
        have e9 : w3.cell? ⟨g, m * 12 + 9, none⟩ = some (.int .u8 ↑o2.toNat) := cell_below HB3.out (HCC.out 9 _ (by decide) rfl) hg
        have e10 : w3.cell? ⟨g, m * 12 + 10, none⟩ = some (.int .u8 ↑f2.toNat) := cell_below HB3.out (HCC.out 10 _ (by decide) rfl) hg
        have e11 : w3.cell? ⟨g, m * 12 + 11, none⟩ = some (.int .u8 ↑p1.toNat) := cell_below HB3.out (HCC.out 11 _ (by decide) rfl) hg
        go_wp2_with fail
        refine (HTX.out _).mono ?_
        rintro e w4 ⟨rfl, hb4⟩
        have HT4 : Hid (w4.heap[w1.heap.size]? = some (.cells (tabA N) 75 (0, 0))) := by rw [Hid, hb4.block _ (lt_of_block HT3.out)]; exact HT3.out
        have HB4 := hid (HB3.out.trans (hb4.mono HB3.out.size))
        clear e0 e1 e2 e3 e4 e5 e6 e7 e8 e9 e10 e11 hb4
        have e0 : w4.cell? ⟨g, m * 12, none⟩ = some (.int .i64 ↑k1) := cell_below HB4.out (HCC.out 0 _ (by decide) rfl) hg
        have e1 : w4.cell? ⟨g, m * 12 + 1, none⟩ = some (.int .u8 ↑x1.toNat) := cell_below HB4.out (HCC.out 1 _ (by decide) rfl) hg
        have e2 : w4.cell? ⟨g, m * 12 + 2, none⟩ = some (.int .u8 ↑y1.toNat) := cell_below HB4.out (HCC.out 2 _ (by decide) rfl) hg
        have e3 : w4.cell? ⟨g, m * 12 + 3, none⟩ = some (.int .u8 ↑o1.toNat) := cell_below HB4.out (HCC.out 3 _ (by decide) rfl) hg
        have e4 : w4.cell? ⟨g, m * 12 + 4, none⟩ = some (.int .u8 ↑f1.toNat) := cell_below HB4.out (HCC.out 4 _ (by decide) rfl) hg
        have e5 : w4.cell? ⟨g, m * 12 + 5, none⟩ = some (.int .u8 ↑d1.toNat) := cell_below HB4.out (HCC.out 5 _ (by decide) rfl) hg
        have e6 : w4.cell? ⟨g, m * 12 + 6, none⟩ = some (.int .i64 ↑k2) := cell_below HB4.out (HCC.out 6 _ (by decide) rfl) hg
        have e7 : w4.cell? ⟨g, m * 12 + 7, none⟩ = some (.int .u8 ↑x2.toNat) := cell_below HB4.out (HCC.out 7 _ (by decide) rfl) hg
        have e8 : w4.cell? ⟨g, m * 12 + 8, none⟩ = some (.int .u8 ↑y2.toNat) := cell_below HB4.out (HCC.out 8 _ (by decide) rfl) hg
        have e9 : w4.cell? ⟨g, m * 12 + 9, none⟩ = some (.int .u8 ↑o2.toNat) := cell_below HB4.out (HCC.out 9 _ (by decide) rfl) hg
        have e10 : w4.cell? ⟨g, m * 12 + 10, none⟩ = some (.int .u8 ↑f2.toNat) := cell_below HB4.out (HCC.out 10 _ (by decide) rfl) hg
        have e11 : w4.cell? ⟨g, m * 12 + 11, none⟩ = some (.int .u8 ↑p1.toNat) := cell_below HB4.out (HCC.out 11 _ (by decide) rfl) hg
        obtain ⟨t0, t1, t2, t3, t4, t5, t6, t7, t8, t9, t10, t11⟩ := tab12 HT4.out
        go_wp2_with fail
        apply wp_merge (fun w' => w'.heap[w1.heap.size]? = some (.cells (tabA N2) 75 (0, 0)) ∧ Below w1.heap.size w1 w')
        case h =>
          go_region_with (go_at_call 91; refine (HPN.out _).mono ?_; rintro e w5 ⟨rfl, hb5⟩; have hZ2 : w5.heap[w1.heap.size]? = some (.cells (tabA N) 75 (0, 0)) := (by rw [hb5.block _ (lt_of_block HT4.out)]; exact HT4.out); obtain ⟨z0, z1, z2, z3, z4, z5, z6, z7, z8, z9, z10, z11⟩ := tab12 hZ2; obtain ⟨q0, q1, q2, q3, q4, q5, q6, q7, q8, q9, q10, q11⟩ := tab_free hZ2)
          all_goals
            rw [storedT_eq]
            exact ⟨rfl, storedT_block hZ2, storedT_below (HB4.out.trans ((undrew hb5).mono HB4.out.size)) (Nat.le_refl _)⟩
        clear e0 e1 e2 e3 e4 e5 e6 e7 e8 e9 e10 e11 t0 t1 t2 t3 t4 t5 t6 t7 t8 t9 t10 t11
        intro W5 hW5
        have HW5 := hid hW5
        clear hW5
        go_wp2_with fail
        go_roundw
        case rel => exact ⟨m, N2, TX ++ t, by omega, rfl, by go_num, HBN.out, HW5.out.1, HW5.out.2⟩
        case measure => first | (simp [intOf]; done) | (simp [intOf]; omega)
end Go.Proofs.Ytmjlcajcobbcgab

namespace Go.Proofs.Ytmjlcajcobbcgab
open Go.RowKit

theorem hasR_site {R : Al.Rw} {c : Nat} {d : UInt8} (h : Al.hasR R c d.toNat = true) : Al.oB d.toNat = true := by
  by_cases ho : 65 ≤ d.toNat ∧ d.toNat ≤ 76
  · simp [Al.oB, ho.1, ho.2]
  · unfold Al.hasR Al.onlyR at h
    rw [if_neg ho] at h
    simp at h

set_option maxRecDepth 100000 in
set_option maxHeartbeats 2000000 in
theorem whyOk : WhyOk := by
  intro b A l o w hS hA hsm
  obtain ⟨v, hv, hr⟩ := hS.ex
  have hcv := cell_of_one hv
  have hlb := lt_of_block hv
  have HRN := hid (readName_any A l v w hA.1 hr (by omega))
  have HR := hid hr
  have hsz : (bs o).size = o.length := rfl
  by_cases hn : 0 ≤ varN A l
  · rw [show decide (0 ≤ varN A l) = true from by simpa using hn] at HRN
    obtain ⟨hv1, hv2⟩ := varN_name hn
    by_cases h1 : o.length = 1
    · obtain ⟨dd, rfl⟩ : ∃ dd, o = [dd] := by
        match o, h1 with
        | [dd], _ => exact ⟨dd, rfl⟩
      have hi := ix [dd] 0 0 dd.toNat rfl rfl
      have hs1 : (bs [dd]).size = 1 := rfl
      have HE : Hid (whyE A l [dd] = if Al.oB dd.toNat = true ∧ Al.leastP A Al.allF (Al.vi (nameB l)) (Al.si dd) = true then 0 else 4) := by
        rw [Hid, whyE_one, if_neg (by omega), hv1, Int.toNat_natCast]
      have HNL : Hid (∀ x, l = [x] → x = nameB l) := fun x e => by rw [e]; rfl
      have HL2 := hid (fun wx (h : RdA wx v A) => leastTable_any A Al.allF v wx hA.1 h (by omega) (by decide))
      rw [bs_all6] at HL2
      have HHA := hid (fun R wx (hR : Al.OkR R) => has_any R (nameB l).toNat dd.toNat wx (by have := (nameB l).toNat_lt; omega) (by have := dd.toNat_lt; omega) hR)
      have HRF := hid (fun wx (h : RdA wx v A) hd hl => reasonFor_any A (nameB l) dd v wx hA h hsm hv2 hd hl)
      have HHT := hid (fun R (hd : Al.oB dd.toNat = true) => Al.has_tb (R := R) hv2 hd)
      clear hn h1 hsz hr hv hS hv1 hv2
      go_enter Try.func41, Try.ntmps41
      go_wp2_with (go_at_call 34; refine HRN.out.mono ?_; rintro e w1 ⟨rfl, hb1⟩; have hc1 := cell_below hb1 hcv hlb)
      refine (HL2.out _ (HR.out.below hb1)).mono ?_
      rintro e w3 ⟨R, rfl, hR3, hT3, hb3⟩
      have hB3 := hb1.trans (hb3.mono hb1.size)
      have HB3 := hid hB3
      have HT3 := hid hT3
      have HHB := hid (fun wx => HHA.out R wx hR3)
      have hsz3 := hB3.size
      clear hb1 hb3 hB3 hT3 hR3 hc1
      simp only [tabA] at HHB ⊢
      go_wp2_with fail
      have hB4 := HB3.out.alloc hsz3 (.cells (tabA R) 75)
      simp only [tabA] at hB4
      generalize w3.alloc (.cells #[.int .i64 ↑(R 0), .int .i64 ↑(R 1), .int .i64 ↑(R 2), .int .i64 ↑(R 3), .int .i64 ↑(R 4), .int .i64 ↑(R 5), .int .i64 ↑(R 6), .int .i64 ↑(R 7), .int .i64 ↑(R 8), .int .i64 ↑(R 9), .int .i64 ↑(R 10), .int .i64 ↑(R 11)] 75) = W4 at *
      refine (HHB.out _).mono ?_
      rintro e w5 ⟨rfl, hb5⟩
      have hB5 := hB4.trans (hb5.mono hB4.size)
      have hc5 := cell_below hB5 hcv hlb
      have HB5 := hid hB5
      have HR5 := hid (HR.out.below hB5)
      clear hb5 hB4 hB5
      cases hh : Al.hasR R (nameB l).toNat dd.toNat with
      | false =>
        have HW : Hid (whyE A l [dd] = 4) := by
          rw [Hid, HE.out, if_neg]
          rintro ⟨h1, h2⟩
          rw [HHT.out R h1, HT3.out _ _ (Al.ob_bd h1).1, h2] at hh
          cases hh
        clear hh
        go_wp2_with fail
        go_ret2
        exact ⟨[], by rw [HW.out]; rfl, fun _ => rfl, (fun _ _ _ _ h => by rw [HW.out] at h; cases h), HB5.out⟩
      | true =>
        have hob := hasR_site hh
        have hlp : Al.leastP A Al.allF (Al.vi (nameB l)) (Al.si dd) = true := by
          rw [HHT.out R hob, HT3.out _ _ (Al.ob_bd hob).1] at hh; exact hh
        have HW : Hid (whyE A l [dd] = 0) := by rw [Hid, HE.out, if_pos ⟨hob, hlp⟩]
        have HRG := hid (HRF.out w5 HR5.out hob hlp)
        clear hh hob hlp
        go_wp2_with fail
        refine HRG.out.mono ?_
        rintro e w6 ⟨t, rfl, ht1, ht2, ht3, hb6⟩
        have HTT := hid (And.intro ht1 (And.intro ht2 ht3))
        clear ht1 ht2 ht3
        go_wp2_with fail
        go_ret2
        refine ⟨t, by rw [HW.out]; rfl, fun h => absurd HW.out h, fun x y e1 e2 _ => ?_, HB5.out.trans (hb6.mono HB5.out.size)⟩
        have e3 := HNL.out x e1
        simp only [List.cons.injEq, and_true] at e2
        subst e2
        rw [e3]
        exact HTT.out
    · have HE : Hid (whyE A l o = 4) := by rw [Hid, whyE_len h1, if_neg (by omega)]
      have hb : ((o.length : Int) != 1) = true := by simp; omega
      clear hn hr hv hS hv1 hv2
      go_enter Try.func41, Try.ntmps41
      go_wp2_with (go_at_call 34; refine HRN.out.mono ?_; rintro e w1 ⟨rfl, hb1⟩)
      go_ret2
      exact ⟨[], by rw [HE.out]; rfl, fun _ => rfl, (fun _ _ _ _ h => by rw [HE.out] at h; cases h), hb1⟩
  · have HE : Hid (whyE A l o = 5) := whyE_neg (by omega)
    rw [show decide (0 ≤ varN A l) = false from by simpa using hn] at HRN
    clear hn hr hv hS
    go_enter Try.func41, Try.ntmps41
    go_wp2_with (go_at_call 34; refine HRN.out.mono ?_; rintro e w1 ⟨rfl, hb1⟩)
    go_ret2
    exact ⟨[], by rw [HE.out]; rfl, fun _ => rfl, (fun _ _ _ _ h => by rw [HE.out] at h; cases h), hb1⟩
end Go.Proofs.Ytmjlcajcobbcgab
