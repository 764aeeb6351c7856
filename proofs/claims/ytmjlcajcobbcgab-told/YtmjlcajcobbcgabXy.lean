import Derived.Test.YtmjlcajcobbcgabXm
import Derived.Test.YtmjlcajcobbcgabXw
import Derived.Test.YtmjlcajcobbcgabXv
import Derived.Test.YtmjlcajcobbcgabYAsk
namespace Go.Proofs.Ytmjlcajcobbcgab
open Go.RowKit

set_option maxRecDepth 100000 in
set_option maxHeartbeats 1000000 in
theorem has_any (R : Al.Rw) (c d : Nat) (w : World) (hc : c ≤ 255) (hd : d ≤ 255) (hR : Al.OkR R) :
    Calls Try.prog 71 #[.agg (tabA R), .int .u8 c, .int .u8 d] w fun e w' => e = .returned (.bool (Al.hasR R c d)) ∧ Below w.heap.size w w' := by
  have HO := hid (fun wx => of_any R c wx hc)
  have HON := hid (fun wx => only_any d wx hd)
  have HM : Hid (Al.hasR R c d = (Al.rowAt R c &&& Al.onlyR d != 0)) := rfl
  have hand := and_i64 (Al.rowAt_ok hR c) (Al.onlyR_ok d)
  clear hR
  simp only [tabA] at HO ⊢
  go_enter Try.func71, Try.ntmps71
  go_wp2_with (first | (go_at_call 38; refine (HO.out _).mono ?_; rintro e w' ⟨rfl, rfl⟩) | (go_at_call 70; refine (HON.out _).mono ?_; rintro e w' ⟨rfl, rfl⟩))
  go_ret
  exact ⟨by rw [HM.out, ← cast_bne]; rfl, ((Below.refl _ _).alloc (Nat.le_refl _) _).alloc (by simp) _⟩

set_option maxHeartbeats 400000 in
theorem isAhead_any (a b : List UInt8) (w : World) : Calls Try.prog 66 #[.string (bs a), .string (bs b)] w fun e w' => e = .returned (.bool (aheadB a b)) ∧ w' = w := by
  have h1 : (bs a).size = a.length := rfl
  have h2 : (bs b).size = b.length := rfl
  have hbt := bs_toList
  by_cases h : a.length = b.length
  · have HF : Hid (aheadB a b = Op.bytesLess a b) := by rw [Hid, aheadB, if_pos h, Al.lt]
    have hne : ((a.length : Int) != (b.length : Int)) = false := by simp [h]
    clear h
    go_enter Try.func66, Try.ntmps66
    go_wp2
    go_ret
    exact ⟨by rw [HF.out]; rfl, rfl⟩
  · have HF : Hid (aheadB a b = decide (a.length < b.length)) := by rw [Hid, aheadB, if_neg h]
    have hne : ((a.length : Int) != (b.length : Int)) = true := by rw [bne_iff_ne]; omega
    clear h
    go_enter Try.func66, Try.ntmps66
    go_wp2
    go_ret
    exact ⟨by rw [HF.out]; rfl, rfl⟩

theorem half_bit (n k : Nat) : (n / 2 ^ k) % 2 = if n.testBit k = true then 1 else 0 := by
  rw [Nat.testBit_eq_decide_div_mod_eq]
  by_cases h : n / 2 ^ k % 2 = 1
  · simp [h]
  · simp [h]; omega
theorem half_next (n k : Nat) : n / 2 ^ k / 2 = n / 2 ^ (k + 1) := by
  rw [Nat.div_div_eq_div_mul, Nat.pow_succ]

set_option maxRecDepth 100000 in
set_option maxHeartbeats 1000000 in
theorem fieldText_any (n : Nat) (w : World) (hn : n < 64) :
    Calls Try.prog 65 #[.int .i64 n] w fun e w' => e = .returned (.string (bs (ftP n))) ∧ Below w.heap.size w w' := by
  obtain ⟨i0, hi, hz0, hz1, hz2⟩ := info_parts Try.info5
  have HTR : Hid (ftP n = ftTo n 6) := rfl
  go_enter Try.func65, Try.ntmps65
  go_wp2_with fail
  go_loopw [0, 3, 4] (fun m v i wr => ∃ k : Nat, k ≤ 6 ∧ m = .int .i64 ((n / 2 ^ k : Nat) : Int) ∧ i = .int .i64 (k : Int) ∧ wr.ownsRow w.heap.size 5 1 v (ftTo n k).length ((ftTo n k).map bv) ∧ Below w.heap.size w wr) (fun _ _ i _ => 6 - (intOf i).toNat)
  case atStart => exact ⟨0, by omega, by simp, rfl, World.ownsRow_nil _ _ _ _, Below.refl _ _⟩
  case round =>
    obtain ⟨k, hk, rfl, rfl, hown, hbel⟩ := hrel
    have hsz := hbel.size
    have hlen := ftTo_len n k
    by_cases hlt : k < 6
    · have HTS := hid (ftTo_succ n k)
      have hhb := half_bit n k
      have HHN := hid (half_next n k)
      have HFB : Hid (bv (fieldB k) = .int .u8 (48 + (k : Int))) := by unfold Hid bv; rw [fieldB_toNat hlt]; rfl
      have hix := ix Al.allF k k (48 + (k : Int)) rfl (by rcases (show k = 0 ∨ k = 1 ∨ k = 2 ∨ k = 3 ∨ k = 4 ∨ k = 5 by omega) with rfl | rfl | rfl | rfl | rfl | rfl <;> rfl)
      rw [bs_all6] at hix
      have hmn : n / 2 ^ k < 64 := Nat.lt_of_le_of_lt (Nat.div_le_self _ _) hn
      have hdv : Int.tdiv ((n / 2 ^ k : Nat) : Int) 2 = ((n / 2 ^ (k + 1) : Nat) : Int) := by rw [← half_next]; rfl
      generalize ftTo n k = L at *
      obtain ⟨m2, hm2⟩ : ∃ m2, n / 2 ^ (k + 1) = m2 := ⟨_, rfl⟩
      have hm64 : m2 < 64 := by rw [← hm2]; exact Nat.lt_of_le_of_lt (Nat.div_le_self _ _) hn
      rw [hm2] at hdv
      have HM2 := hid hm2
      clear hm2 HHN
      generalize n / 2 ^ k = m at *
      cases hb : n.testBit k with
      | true =>
        rw [if_pos hb] at HTS hhb
        have hr2 : ((m : Int) % 2 == 1) = true := by rw [beq_iff_eq]; omega
        clear hb
        go_wp2_with (at_builtin; refine append_new (w0 := w) rfl (.tmp 12) (.tmp 15) 71 rfl w.heap.size 5 i0 (.int .u8 0) 1 1 Try.underlying71 hi hz0 hz1 hz2 rfl (by decide) _ L.length (L.map bv) rfl hown #[.int .u8 (48 + (k : Int))] rfl (by simp [Value.oneCell']) rfl (by omega) (by decide) hsz hbel ?_; intro v3 w3 hown3 hbel4)
        go_roundw
        case rel => exact ⟨k + 1, by omega, by rw [HM2.out], by go_num, by rw [HTS.out, List.map_append, List.length_append]; simp only [List.map_cons, List.map_nil, List.length_cons, List.length_nil, HFB.out]; exact hown3, hbel4⟩
        case measure => simp [intOf]; omega
      | false =>
        rw [if_neg (by rw [hb]; simp)] at HTS hhb
        rw [List.append_nil] at HTS
        have hr2 : ((m : Int) % 2 == 1) = false := by rw [beq_eq_false_iff_ne]; omega
        clear hb
        go_wp2_with fail
        go_roundw
        case rel => exact ⟨k + 1, by omega, by rw [HM2.out], by go_num, by rw [HTS.out]; exact hown, hbel⟩
        case measure => simp [intOf]; omega
    · have hk12 : k = 6 := by omega
      subst hk12
      have hcv := convert_any hown
      clear hown
      go_wp2
      go_ret
      exact ⟨by rw [HTR.out]; rfl, hbel⟩
end Go.Proofs.Ytmjlcajcobbcgab

namespace Go.Proofs.Ytmjlcajcobbcgab
open Go.RowKit

theorem exact_rows {A : List Al.St} {c : UInt8} {f : List UInt8} {R Q : Al.Rw} (hc : Al.vB c.toNat = true) (hR : Al.OkR R) (hQ : Al.OkR Q) (h1 : ∀ a o, o < 12 → Al.tbOf R a o = Al.leastP A f a o) (h2 : ∀ a o, o < 12 → Al.tbOf Q a o = Al.leastP A Al.allF a o) :
    exactP A (Al.vi c) f = ((Al.rowAt R c.toNat : Int) == (Al.rowAt Q c.toNat : Int)) := by
  obtain ⟨h3, h4⟩ := name_lt hc
  unfold exactP
  rw [← setOf_congr (h1 (Al.vi c)), ← setOf_congr (h2 (Al.vi c)), setOf_tb h3, setOf_tb h3, Al.rowAt_vi h3 h4, Al.rowAt_vi h3 h4, textR_beq (hR _ h3) (hQ _ h3)]

theorem alloc_keep {w : World} {b o : Nat} {v : Value} {O : Obj} (h : w.cell? ⟨b, o, none⟩ = some v) : (w.alloc O).cell? ⟨b, o, none⟩ = some v :=
  cell_keep ((Below.refl _ _).alloc (Nat.le_refl _) _) h

set_option maxRecDepth 100000 in
set_option maxHeartbeats 2000000 in
theorem fewest_any (A : List Al.St) (c : UInt8) (v : Value) (w : World) (hA : ∀ a ∈ A, Al.Wf a) (hr : RdA w v A) (hs : A.length ≤ 100000) (hc : Al.vB c.toNat = true) :
    Calls Try.prog 35 #[v, .int .u8 (c.toNat : Nat)] w fun e w' => e = .returned (.string (bs (refineF A (Al.vi c)))) ∧ Below w.heap.size w w' := by
  have HR := hid hr
  have HL := hid (fun f wx (h : RdA wx v A) (hf : f.length ≤ 9223372036854775807) => leastTable_any A f v wx hA h hs hf)
  have HFT := hid (fun k wx (hk : k < 64) => fieldText_any k wx hk)
  have HIA := hid (fun a b wx => isAhead_any a b wx)
  have hLA := HL.out Al.allF w hr (by decide)
  rw [bs_all6] at hLA
  have HLA := hid hLA
  have HCV := hid hc
  have hnb : c.toNat ≤ 255 := by have := c.toNat_lt; omega
  have HNB := hid hnb
  clear hLA hr hA hs hc hnb
  go_enter Try.func35, Try.ntmps35
  go_wp2_with fail
  refine HLA.out.mono ?_
  rintro e w1 ⟨Q, rfl, hQ, hQT, hb1⟩
  have HQ := hid (And.intro hQ hQT)
  simp only [tabA]
  go_wp2_with fail
  have hnew := heap_alloc_new w1 (.cells (tabA Q) 75)
  have hB1 := hb1.alloc hb1.size (.cells (tabA Q) 75)
  simp only [show tabA Q = #[.int .i64 ↑(Q 0), .int .i64 ↑(Q 1), .int .i64 ↑(Q 2), .int .i64 ↑(Q 3), .int .i64 ↑(Q 4), .int .i64 ↑(Q 5), .int .i64 ↑(Q 6), .int .i64 ↑(Q 7), .int .i64 ↑(Q 8), .int .i64 ↑(Q 9), .int .i64 ↑(Q 10), .int .i64 ↑(Q 11)] from rfl] at hnew hB1
  generalize w1.alloc (.cells #[.int .i64 ↑(Q 0), .int .i64 ↑(Q 1), .int .i64 ↑(Q 2), .int .i64 ↑(Q 3), .int .i64 ↑(Q 4), .int .i64 ↑(Q 5), .int .i64 ↑(Q 6), .int .i64 ↑(Q 7), .int .i64 ↑(Q 8), .int .i64 ↑(Q 9), .int .i64 ↑(Q 10), .int .i64 ↑(Q 11)] 75) = W1 at *
  have hlt1 := lt_of_block hnew
  have hsw1 := hb1.size
  have HN := hid hnew
  have HB1 := hid hB1
  have HBZ := hid (best_zero A (Al.vi c))
  clear hnew hB1 hb1 hQ hQT
  rw [← bs_all6]
  go_loopw [5, 7] (fun b i wr => ∃ (k : Nat) (l : List UInt8), k ≤ 64 ∧ b = .string (bs l) ∧ i = .int .i64 (k : Int) ∧ BestTo A (Al.vi c) k l ∧ Below (w1.heap.size + 1) W1 wr) (fun _ i _ => 64 - (intOf i).toNat)
  case atStart => exact ⟨0, Al.allF, by omega, rfl, rfl, HBZ.out, Below.refl _ _⟩
  case round =>
    obtain ⟨k, l, hk, rfl, rfl, hbest, hbel⟩ := hrel
    have HBE := hid hbest
    have HBL := hid hbel
    have hsz : w1.heap.size + 1 ≤ wr.heap.size := Nat.le_trans hlt1 hbel.size
    clear hbest hbel
    by_cases hlt : k < 64
    · have hFK := HFT.out k wr hlt
      have hfl := fieldOk_len (ft_ok hlt)
      have HSK := hid (best_skip HBE.out)
      have HTK := hid (best_take HBE.out hlt)
      obtain ⟨F, hF⟩ : ∃ F, ftP k = F := ⟨_, rfl⟩
      rw [hF] at hFK hfl HSK HTK
      have HFK := hid hFK
      clear hF hFK
      go_wp2_with fail
      refine HFK.out.mono ?_
      rintro e w2 ⟨rfl, hb2⟩
      have hb2' := HBL.out.trans (hb2.mono hsz)
      have HB2 := hid hb2'
      have hsz2 : w1.heap.size + 1 ≤ w2.heap.size := Nat.le_trans hlt1 hb2'.size
      clear hb2 hb2'
      have hia := HIA.out F l
      cases hah : aheadB F l with
      | false =>
        have HNA : Hid (¬ Ahead F l) := fun h => by rw [(ahead_iff F l).2 h] at hah; cases hah
        rw [hah] at hia
        have HI2 := hid hia
        clear hia hah
        go_wp2_with (go_at_call 66; refine (HI2.out _).mono ?_; rintro e w' ⟨rfl, rfl⟩)
        go_roundw
        case rel => exact ⟨k + 1, l, by omega, rfl, by go_num, HSK.out (.inr HNA.out), HB2.out⟩
        case measure => simp [intOf]; omega
      | true =>
        have HAH : Hid (Ahead F l) := (ahead_iff F l).1 hah
        rw [hah] at hia
        have HI2 := hid hia
        clear hia hah
        have hBW2 := HB1.out.trans (HB2.out.mono (Nat.le_trans hsw1 (Nat.le_succ _)))
        have HL2 := hid (HL.out F w2 (HR.out.below hBW2) (by omega))
        clear hBW2
        go_wp2_with (go_at_call 66; refine (HI2.out _).mono ?_; rintro e w' ⟨rfl, rfl⟩)
        refine HL2.out.mono ?_
        rintro e w3 ⟨R, rfl, hR, hRT, hb3⟩
        have hexa := exact_rows HCV.out hR HQ.out.1 hRT HQ.out.2
        have hb3' := HB2.out.trans (hb3.mono hsz2)
        have hsz3 : w1.heap.size + 1 ≤ w3.heap.size := Nat.le_trans hlt1 hb3'.size
        have HOG := hid (fun (S : Al.Rw) wx => of_any S c.toNat wx HNB.out)
        have HB3 := hid hb3'
        clear hb3 hb3' hR hRT
        simp only [tabA] at HOG ⊢
        go_wp2_with fail
        have hnw := heap_alloc_new w3 (.cells (tabA R) 75)
        have hB4 := HB3.out.alloc hsz3 (.cells (tabA R) 75)
        simp only [show tabA R = #[.int .i64 ↑(R 0), .int .i64 ↑(R 1), .int .i64 ↑(R 2), .int .i64 ↑(R 3), .int .i64 ↑(R 4), .int .i64 ↑(R 5), .int .i64 ↑(R 6), .int .i64 ↑(R 7), .int .i64 ↑(R 8), .int .i64 ↑(R 9), .int .i64 ↑(R 10), .int .i64 ↑(R 11)] from rfl] at hnw hB4
        generalize w3.alloc (.cells #[.int .i64 ↑(R 0), .int .i64 ↑(R 1), .int .i64 ↑(R 2), .int .i64 ↑(R 3), .int .i64 ↑(R 4), .int .i64 ↑(R 5), .int .i64 ↑(R 6), .int .i64 ↑(R 7), .int .i64 ↑(R 8), .int .i64 ↑(R 9), .int .i64 ↑(R 10), .int .i64 ↑(R 11)] 75) = W4 at *
        have hTR : W4.heap[w3.heap.size]? = some (.cells (tabA R) 75 (0, 0)) := hnw
        have hTQ : W4.heap[w1.heap.size]? = some (.cells (tabA Q) 75 (0, 0)) := by rw [hB4.block _ (Nat.lt_succ_self _)]; exact HN.out
        obtain ⟨t0, t1, t2, t3, t4, t5, t6, t7, t8, t9, t10, t11⟩ := tab12 hTR
        obtain ⟨s0, s1, s2, s3, s4, s5, s6, s7, s8, s9, s10, s11⟩ := tab12 hTQ
        have hsz4 : w1.heap.size + 1 ≤ W4.heap.size := Nat.le_trans hlt1 hB4.size
        have hq3 := lt_of_block hTR
        have HB4 := hid hB4
        clear hnw hB4 hTR hTQ
        go_region_held3 (fun w' => w'.cell? ⟨w3.heap.size, 0, none⟩ = some (.int .i64 ↑(R 0)) ∧ w'.cell? ⟨w3.heap.size, 1, none⟩ = some (.int .i64 ↑(R 1)) ∧ w'.cell? ⟨w3.heap.size, 2, none⟩ = some (.int .i64 ↑(R 2)) ∧ w'.cell? ⟨w3.heap.size, 3, none⟩ = some (.int .i64 ↑(R 3)) ∧ w'.cell? ⟨w3.heap.size, 4, none⟩ = some (.int .i64 ↑(R 4)) ∧ w'.cell? ⟨w3.heap.size, 5, none⟩ = some (.int .i64 ↑(R 5)) ∧ w'.cell? ⟨w3.heap.size, 6, none⟩ = some (.int .i64 ↑(R 6)) ∧ w'.cell? ⟨w3.heap.size, 7, none⟩ = some (.int .i64 ↑(R 7)) ∧ w'.cell? ⟨w3.heap.size, 8, none⟩ = some (.int .i64 ↑(R 8)) ∧ w'.cell? ⟨w3.heap.size, 9, none⟩ = some (.int .i64 ↑(R 9)) ∧ w'.cell? ⟨w3.heap.size, 10, none⟩ = some (.int .i64 ↑(R 10)) ∧ w'.cell? ⟨w3.heap.size, 11, none⟩ = some (.int .i64 ↑(R 11)) ∧ w'.cell? ⟨w1.heap.size, 0, none⟩ = some (.int .i64 ↑(Q 0)) ∧ w'.cell? ⟨w1.heap.size, 1, none⟩ = some (.int .i64 ↑(Q 1)) ∧ w'.cell? ⟨w1.heap.size, 2, none⟩ = some (.int .i64 ↑(Q 2)) ∧ w'.cell? ⟨w1.heap.size, 3, none⟩ = some (.int .i64 ↑(Q 3)) ∧ w'.cell? ⟨w1.heap.size, 4, none⟩ = some (.int .i64 ↑(Q 4)) ∧ w'.cell? ⟨w1.heap.size, 5, none⟩ = some (.int .i64 ↑(Q 5)) ∧ w'.cell? ⟨w1.heap.size, 6, none⟩ = some (.int .i64 ↑(Q 6)) ∧ w'.cell? ⟨w1.heap.size, 7, none⟩ = some (.int .i64 ↑(Q 7)) ∧ w'.cell? ⟨w1.heap.size, 8, none⟩ = some (.int .i64 ↑(Q 8)) ∧ w'.cell? ⟨w1.heap.size, 9, none⟩ = some (.int .i64 ↑(Q 9)) ∧ w'.cell? ⟨w1.heap.size, 10, none⟩ = some (.int .i64 ↑(Q 10)) ∧ w'.cell? ⟨w1.heap.size, 11, none⟩ = some (.int .i64 ↑(Q 11))) (first | exact ⟨t0, t1, t2, t3, t4, t5, t6, t7, t8, t9, t10, t11, s0, s1, s2, s3, s4, s5, s6, s7, s8, s9, s10, s11⟩ | (go_split_ands; exact ⟨alloc_keep (by assumption), alloc_keep (by assumption), alloc_keep (by assumption), alloc_keep (by assumption), alloc_keep (by assumption), alloc_keep (by assumption), alloc_keep (by assumption), alloc_keep (by assumption), alloc_keep (by assumption), alloc_keep (by assumption), alloc_keep (by assumption), alloc_keep (by assumption), alloc_keep (by assumption), alloc_keep (by assumption), alloc_keep (by assumption), alloc_keep (by assumption), alloc_keep (by assumption), alloc_keep (by assumption), alloc_keep (by assumption), alloc_keep (by assumption), alloc_keep (by assumption), alloc_keep (by assumption), alloc_keep (by assumption), alloc_keep (by assumption)⟩)) ((go_at_call 38; refine (HOG.out _ _).mono ?_; rintro e w' ⟨rfl, rfl⟩))
        clear t0 t1 t2 t3 t4 t5 t6 t7 t8 t9 t10 t11 s0 s1 s2 s3 s4 s5 s6 s7 s8 s9 s10 s11
        generalize Al.rowAt R c.toNat = r1 at *
        generalize Al.rowAt Q c.toNat = r2 at *
        have HB5 := hid (fun O1 O2 => ((HB4.out.drew.alloc hsz4 O1).alloc (by simp; omega) O2))
        cases hex : exactP A (Al.vi c) F with
        | true =>
          rw [hex] at hexa
          have hexb := hexa.symm
          clear hexa
          have HEX := hid hex
          clear hex
          go_wp2_with fail
          go_roundw
          case rel => exact ⟨k + 1, F, by omega, rfl, by go_num, HTK.out HAH.out HEX.out, HB5.out _ _⟩
          case measure => simp [intOf]; omega
        | false =>
          rw [hex] at hexa
          have hexb := hexa.symm
          clear hexa
          have HEX := hid hex
          clear hex
          go_wp2_with fail
          go_roundw
          case rel => exact ⟨k + 1, l, by omega, rfl, by go_num, HSK.out (.inl HEX.out), HB5.out _ _⟩
          case measure => simp [intOf]; omega
    · have hk2 : k = 64 := by omega
      subst hk2
      have HEN := hid (best_end HBE.out)
      go_wp2_with fail
      go_ret
      exact ⟨by rw [← HEN.out]; rfl, HB1.out.trans (HBL.out.mono (Nat.le_trans hsw1 (Nat.le_succ _)))⟩

end Go.Proofs.Ytmjlcajcobbcgab

namespace Go.Proofs.Ytmjlcajcobbcgab
open Go.RowKit

set_option maxRecDepth 100000 in
set_option maxHeartbeats 1000000 in
theorem refineOk : RefineOk := by
  intro b A l w hS hA hsm
  obtain ⟨v, hv, hr⟩ := hS.ex
  have hcv := cell_of_one hv
  have hlb := lt_of_block hv
  have HRN := hid (readName_any A l v w hA.1 hr (by omega))
  have HR := hid hr
  by_cases hn : 0 ≤ varN A l
  · rw [show decide (0 ≤ varN A l) = true from by simpa using hn] at HRN
    obtain ⟨h1, h2⟩ := varN_name hn
    have HPP : Hid (refineP A l = (refineF A (Al.vi (nameB l)), 0)) := by
      unfold Hid refineP; rw [if_neg (by omega), h1, Int.toNat_natCast]
    have HFE := hid (fun wx (h : RdA wx v A) => fewest_any A (nameB l) v wx hA.1 h (by omega) h2)
    clear hn h1 h2 hr hv hS
    go_enter Try.func11, Try.ntmps11
    go_wp2_with (go_at_call 34; refine HRN.out.mono ?_; rintro e w1 ⟨rfl, hb1⟩; have hc1 := cell_below hb1 hcv hlb)
    refine (HFE.out _ (HR.out.below hb1)).mono ?_
    rintro e w2 ⟨rfl, hb2⟩
    go_wp2_with fail
    go_ret2
    exact ⟨by rw [HPP.out]; rfl, hb1.trans (hb2.mono hb1.size)⟩
  · have HPP : Hid (refineP A l = ([], 5)) := by unfold Hid refineP; rw [if_pos (by omega)]
    rw [show decide (0 ≤ varN A l) = false from by simpa using hn] at HRN
    clear hn hr hv hS
    go_enter Try.func11, Try.ntmps11
    go_wp2_with (go_at_call 34; refine HRN.out.mono ?_; rintro e w1 ⟨rfl, hb1⟩)
    go_ret2
    exact ⟨by rw [HPP.out]; rfl, hb1⟩
end Go.Proofs.Ytmjlcajcobbcgab
