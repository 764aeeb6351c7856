import Derived.Test.YtmjlcajcobbcgabYAsk
namespace Go.Proofs.Ytmjlcajcobbcgab
open Go.RowKit

set_option maxRecDepth 100000 in
set_option maxHeartbeats 4000000 in
theorem each_any (hRf : RefineOk) (hWy : WhyOk) (b : Nat) (A : List Al.St) (lv : Value) (n : Nat) (w : World) (hS : ASess w b A) (hA : Al.Good A) (hsm : A.length ≤ 24) (hr : RdS w lv (A.map Al.txt)) (hn : n < 12) (hnm : namedP A n = true) :
    Calls Try.prog 19 #[.pointer (some ⟨b, 0, none⟩), lv, .int .u8 (97 + (n : Int)), .string (bs (setOf (Al.leastP A Al.allF) n))] w fun e w' => e = .returned (.bool true) ∧ Below w.heap.size w w' := by
  have HTV := hid (fun wx => text_var n hn wx)
  have hrf := fun wx (h : ASess wx b A) => hRf b A [varByte n] wx h hA hsm
  rw [refine_var hn hnm] at hrf
  have hpo := fun wx (h : ASess wx b A) => aPoints_any b A [varByte n] (refineF A n) wx h hA hsm (Nat.le_trans (fieldOk_len (refineF_ok A n).1) (by decide))
  rw [points_var hn hnm (refineF_ok A n).1, refine_set] at hpo
  have HRF := hid hrf
  have HNU := hid num_any
  have hbt := bs_toList
  have HS := hid hS
  have HR := hid hr
  have HTO := hid (fun c wx => Told_any (setOf (Al.leastP A Al.allF) n) c wx (by have := setOf_len (Al.leastP A Al.allF) n; omega))
  have HTS := hid (fun o (ho : o < 12) => told_set (T := Al.leastP A Al.allF) (v := n) ho)
  have HWY := hid (fun o wx (h : ASess wx b A) => hWy b A [varByte n] [siteB o] wx h hA hsm)
  have HWV := hid (fun o (ho : o < 12) => why_var (A := A) hn ho hnm)
  have HRE := hid (fun t v o m Q wx (h1 : ReasonOf A t v o m Q) (h2 : RdS wx lv (A.map Al.txt)) h3 => Reason_ok A t v o m Q lv wx h1 h2 hA h3)
  have HAL := hid (fun j wx (h : ASess wx b A) => aAlias_any b A [varByte n] [varByte j] Al.allF wx h hA hsm (by decide))
  have HSV := hid (fun j (hj : j < 12) wx (h : ASess wx b A) => set_var b A j Al.allF wx hj h hA hsm (by decide))
  rw [bs_all6] at HAL HSV
  have HSL := hid (fun v => setOf_len (Al.leastP A Al.allF) v)
  have HMV := hid (fun j => meet_var (Al.leastP A Al.allF) n j)
  obtain ⟨X, hX⟩ : ∃ X, setOf (Al.leastP A Al.allF) n = X := ⟨_, rfl⟩
  rw [hX] at hpo HTO HTS HMV ⊢
  rw [show (X == X) = true from by simp] at hpo
  have hxl : X.length ≤ 12 := by rw [← hX]; exact setOf_len _ _
  have HPO := hid hpo
  have HXE := hid hX
  clear hpo hrf hS hr hX
  go_enter Try.func19, Try.ntmps19
  go_wp2_with fail
  refine (HTV.out _).mono ?_
  rintro e w1 ⟨rfl, hb1⟩
  go_wp2_with fail
  refine (HRF.out _ (HS.out.below hb1)).mono ?_
  rintro e w2 ⟨rfl, hb2⟩
  have hB2 := hb1.trans (hb2.mono hb1.size)
  clear hb1 hb2
  go_wp2_with fail
  refine (HTV.out _).mono ?_
  rintro e w3 ⟨rfl, hb3⟩
  have hB3 := hB2.trans (hb3.mono hB2.size)
  clear hb3 hB2
  go_wp2_with fail
  refine (HPO.out _ (HS.out.below hB3)).mono ?_
  rintro e w4 ⟨rfl, hb4⟩
  have hB4 := hB3.trans (hb4.mono hB3.size)
  clear hb4 hB3
  have HB4 := hid hB4
  clear hB4
  go_wp2_with (go_at_call 15; refine (HNU.out _ _).mono ?_; rintro e w' ⟨rfl, rfl⟩)
  go_loopw [14] (fun i wr => ∃ o : Nat, o ≤ 12 ∧ i = .int .i64 o ∧ Below w.heap.size w wr) (fun i _ => 12 - (intOf i).toNat)
  case atStart => exact ⟨0, Nat.zero_le _, rfl, HB4.out⟩
  case round =>
    obtain ⟨o, ho, rfl, hbel⟩ := hrel
    have hsz := hbel.size
    by_cases hol : o < 12
    · have HTO1 := hid (fun wx => text_site o hol wx)
      have hto := fun wx => HTO.out (siteB o) wx
      rw [HTS.out o hol, siteB_toNat hol] at hto
      have hto2 : ∀ wx, Calls Try.prog 42 #[.string (bs X), .int .u8 (65 + (o : Int))] wx fun e w' => e = .returned (.bool (Al.leastP A Al.allF n o)) ∧ w' = wx := hto
      have hwy := fun wx h => HWY.out o wx h
      rw [HWV.out o hol] at hwy
      have hw1 : IntKind.i64.wrap (65 + (o : Int)) = 65 + (o : Int) := IntWalk.i64_in _ ⟨by omega, by omega⟩
      have hw2 : IntKind.u8.wrap (65 + (o : Int)) = 65 + (o : Int) := by rw [IntKind.wrap_u8]; omega
      have HBL := hid hbel
      clear hbel hto
      cases hin : Al.leastP A Al.allF n o with
      | true =>
        rw [hin, if_pos rfl] at hwy
        rw [hin] at hto2
        have HT2 := hid hto2
        have HW2 := hid hwy
        clear hin hto2 hwy
        go_wp2_with fail
        refine (HTV.out _).mono ?_
        rintro e w5 ⟨rfl, hb5⟩
        have hB5 := HBL.out.trans (hb5.mono HBL.out.size)
        clear hb5
        go_wp2_with fail
        refine (HTO1.out _).mono ?_
        rintro e w6 ⟨rfl, hb6⟩
        have hB6 := hB5.trans (hb6.mono hB5.size)
        clear hb6 hB5
        go_wp2_with fail
        refine (HW2.out _ (HS.out.below hB6)).mono ?_
        rintro e w7 ⟨t, rfl, htn, hrs, hb7⟩
        have hB7 := hB6.trans (hb7.mono hB6.size)
        clear hb7 hB6
        obtain ⟨_, htl, m, Q, hro⟩ := hrs _ _ rfl rfl (by first | trivial | rfl)
        rw [varByte_toNat hn, siteB_toNat hol] at hro
        have HRO := hid (fun wx (h : RdS wx lv (A.map Al.txt)) => HRE.out t (97 + n) (65 + o) m Q wx hro h htl)
        clear hro htn hrs htl
        go_wp2_with (first | (go_at_call 42; refine (HT2.out _).mono ?_; rintro e w' ⟨rfl, rfl⟩) | (go_at_call 15; refine (HNU.out _ _).mono ?_; rintro e w' ⟨rfl, rfl⟩))
        refine (HRO.out _ (HR.out.below hB7)).mono ?_
        rintro e w8 ⟨rfl, hb8⟩
        have hB8 := hB7.trans (hb8.mono hB7.size)
        clear hb8 hB7
        go_wp2_with fail
        go_roundw
        case rel => exact ⟨o + 1, by omega, by go_num, hB8⟩
        case measure => simp [intOf]; omega
      | false =>
        rw [hin, if_neg (by simp)] at hwy
        rw [hin] at hto2
        have HT2 := hid hto2
        have HW2 := hid hwy
        clear hin hto2 hwy
        go_wp2_with fail
        refine (HTV.out _).mono ?_
        rintro e w5 ⟨rfl, hb5⟩
        have hB5 := HBL.out.trans (hb5.mono HBL.out.size)
        clear hb5
        go_wp2_with fail
        refine (HTO1.out _).mono ?_
        rintro e w6 ⟨rfl, hb6⟩
        have hB6 := hB5.trans (hb6.mono hB5.size)
        clear hb6 hB5
        go_wp2_with fail
        refine (HW2.out _ (HS.out.below hB6)).mono ?_
        rintro e w7 ⟨t, rfl, htn, hrs, hb7⟩
        have hB7 := hB6.trans (hb7.mono hB6.size)
        clear hb7 hB6
        clear hrs htn
        go_wp2_with (first | (go_at_call 42; refine (HT2.out _).mono ?_; rintro e w' ⟨rfl, rfl⟩) | (go_at_call 15; refine (HNU.out _ _).mono ?_; rintro e w' ⟨rfl, rfl⟩))
        go_roundw
        case rel => exact ⟨o + 1, by omega, by go_num, hB7⟩
        case measure => simp [intOf]; omega
    · have hd : decide ((o : Int) < 12) = false := decide_eq_false (by omega)
      have HB5 := hid hbel
      clear hbel
      go_wp2_with fail
      go_loopw [19] (fun i wr => ∃ j : Nat, j ≤ 12 ∧ i = .int .i64 j ∧ Below w.heap.size w wr) (fun i _ => 12 - (intOf i).toNat)
      case atStart => exact ⟨0, Nat.zero_le _, rfl, HB5.out⟩
      case round =>
        obtain ⟨j, hj, rfl, hbel⟩ := hrel
        by_cases hjl : j < 12
        · have hw1 : IntKind.i64.wrap (97 + (j : Int)) = 97 + (j : Int) := IntWalk.i64_in _ ⟨by omega, by omega⟩
          have hw2 : IntKind.u8.wrap (97 + (j : Int)) = 97 + (j : Int) := by rw [IntKind.wrap_u8]; omega
          have HTJ := hid (fun wx => text_var j hjl wx)
          have hsv := fun wx h => HSV.out j hjl wx h
          have hal := fun wx h => HAL.out j wx h
          have HBL := hid hbel
          clear hbel
          cases hmn : namedP A j with
          | false =>
            rw [points_var_no hjl hmn] at hsv
            rw [alias_var_no hjl hmn] at hal
            have HSV1 := hid hsv
            have HAL1 := hid hal
            have HML := hid (fun wx => meetL_any X [] wx (by omega) (by decide))
            generalize meetP X [] = mb at *
            clear hsv hal hmn
            go_wp2_with fail
            refine (HSV1.out _ (HS.out.below HBL.out)).mono ?_
            rintro e w5 ⟨rfl, hb5⟩
            have hB5 := HBL.out.trans (hb5.mono HBL.out.size)
            clear hb5
            go_wp2_with fail
            refine (HTV.out _).mono ?_
            rintro e w6 ⟨rfl, hb6⟩
            have hB6 := hB5.trans (hb6.mono hB5.size)
            clear hb6 hB5
            go_wp2_with fail
            refine (HTJ.out _).mono ?_
            rintro e w7 ⟨rfl, hb7⟩
            have hB7 := hB6.trans (hb7.mono hB6.size)
            clear hb7 hB6
            go_wp2_with fail
            refine (HAL1.out _ (HS.out.below hB7)).mono ?_
            rintro e w8 ⟨rfl, hb8⟩
            have hB8 := hB7.trans (hb8.mono hB7.size)
            clear hb8 hB7
            go_wp2_with fail
            refine (HML.out _).mono ?_
            rintro e w9 ⟨rfl, rfl⟩
            go_wp2_with (go_at_call 15; refine (HNU.out _ _).mono ?_; rintro e w' ⟨rfl, rfl⟩)
            go_roundw
            case rel => exact ⟨j + 1, by omega, by go_num, hB8⟩
            case measure => simp [intOf]; omega
          | true =>
            rw [points_var hjl hmn all_fields] at hsv
            rw [alias_var hn hjl hnm hmn] at hal
            have hml := fun wx => meetL_any X (setOf (Al.leastP A Al.allF) j) wx (by omega) (by have := HSL.out j; omega)
            rw [HMV.out j] at hml
            generalize Al.meetT (Al.leastP A Al.allF) n j = mb at *
            have HSV1 := hid hsv
            have HAL1 := hid hal
            have HML := hid hml
            generalize setOf (Al.leastP A Al.allF) j = Y at *
            clear hsv hal hmn hml
            go_wp2_with fail
            refine (HSV1.out _ (HS.out.below HBL.out)).mono ?_
            rintro e w5 ⟨rfl, hb5⟩
            have hB5 := HBL.out.trans (hb5.mono HBL.out.size)
            clear hb5
            go_wp2_with fail
            refine (HTV.out _).mono ?_
            rintro e w6 ⟨rfl, hb6⟩
            have hB6 := hB5.trans (hb6.mono hB5.size)
            clear hb6 hB5
            go_wp2_with fail
            refine (HTJ.out _).mono ?_
            rintro e w7 ⟨rfl, hb7⟩
            have hB7 := hB6.trans (hb7.mono hB6.size)
            clear hb7 hB6
            go_wp2_with fail
            refine (HAL1.out _ (HS.out.below hB7)).mono ?_
            rintro e w8 ⟨rfl, hb8⟩
            have hB8 := hB7.trans (hb8.mono hB7.size)
            clear hb8 hB7
            go_wp2_with fail
            refine (HML.out _).mono ?_
            rintro e w9 ⟨rfl, rfl⟩
            go_wp2_with (go_at_call 15; refine (HNU.out _ _).mono ?_; rintro e w' ⟨rfl, rfl⟩)
            go_roundw
            case rel => exact ⟨j + 1, by omega, by go_num, hB8⟩
            case measure => simp [intOf]; omega
        · have hd2 : decide ((j : Int) < 12) = false := decide_eq_false (by omega)
          go_wp2_with fail
          go_ret
          exact ⟨rfl, hbel⟩
set_option maxRecDepth 100000 in
set_option maxHeartbeats 4000000 in
theorem Told_core (hRf : RefineOk) (hWy : WhyOk) (ap : Option Addr) (len cap : Nat) (A : List Al.St) (hgo : Al.Good A) (hsm : A.length ≤ 24) (w : World)
    (hM : Calls Try.prog 8 #[.slice ap len cap] w fun e w' => ∃ x, e = .returned (.tuple #[.pointer (some ⟨x, 0, none⟩), .bool true]) ∧ ASess w' x A ∧ w.heap.size ≤ x ∧ Below w.heap.size w w')
    (hL : ∀ x wx, Below w.heap.size w wx → ASess wx x A → Calls Try.prog 9 #[.pointer (some ⟨x, 0, none⟩), .slice ap len cap] wx fun e w' => ∃ v, e = .returned (.tuple #[v, .bool true]) ∧ RdS w' v (A.map Al.txt) ∧ Below wx.heap.size wx w') :
    Calls Try.prog 5 #[.slice ap len cap] w fun e w' => e = .returned (.bool true) ∧ Below w.heap.size w w' := by
  have HM := hid hM
  have HL := hid hL
  have HGO := hid hgo
  have HRW := hid (And.intro hRf hWy)
  have hbt := bs_toList
  have hba := bs_app
  clear hgo hRf hWy hM hL
  go_enter Try.func5, Try.ntmps5
  go_wp2_with fail
  refine HM.out.mono ?_
  rintro e w1 ⟨x, rfl, hx1, hxs, hb1⟩
  have HL1 := hid (HL.out x w1 hb1 hx1)
  have HX1 := hid hx1
  have HB1 := hid hb1
  clear hx1 hb1
  go_wp2_with fail
  refine HL1.out.mono ?_
  rintro e w2 ⟨v, rfl, hr2, hb2⟩
  have HX2 := hid (HX1.out.below hb2)
  have HB2 := hid (HB1.out.trans (hb2.mono HB1.out.size))
  have HR2 := hid hr2
  clear hr2 hb2
  go_wp2_with fail
  go_loopw [7, 8] (fun s i wr => ∃ k : Nat, k ≤ 12 ∧ i = .int .i64 k ∧ s = .string (bs (batchTo A k)) ∧ Below w2.heap.size w2 wr) (fun _ i _ => 12 - (intOf i).toNat)
  case atStart => exact ⟨0, Nat.zero_le _, rfl, rfl, Below.refl _ _⟩
  case round =>
    obtain ⟨k, hk, rfl, rfl, hbel⟩ := hrel
    have hlen := batch_len A k
    by_cases hkl : k < 12
    · have HBS := hid (batch_succ A k)
      have hw1 : IntKind.i64.wrap (97 + (k : Int)) = 97 + (k : Int) := IntWalk.i64_in _ ⟨by omega, by omega⟩
      have hw2 : IntKind.u8.wrap (97 + (k : Int)) = 97 + (k : Int) := by rw [IntKind.wrap_u8]; omega
      have hsv := fun wx (h : ASess wx x A) => set_var x A k Al.allF wx hkl h HGO.out hsm (by decide)
      rw [bs_all6] at hsv
      have hnm := fun wx (h : RdS wx v (A.map Al.txt)) => Named_any A v k wx h (by omega)
      generalize batchTo A k = L at *
      have HBL := hid hbel
      clear hbel
      cases hn : namedP A k with
      | false =>
        rw [points_var_no hkl hn] at hsv
        rw [hn] at hnm
        have HSV := hid hsv
        have HNM := hid hnm
        have HR3 : Hid (batchTo A (k + 1) = L) := by rw [Hid, HBS.out, if_neg (by rw [hn]; simp)]; simp
        clear hn hsv hnm
        go_wp2_with fail
        refine (HSV.out _ (HX2.out.below HBL.out)).mono ?_
        rintro e w5 ⟨rfl, hb5⟩
        have hB5 := HBL.out.trans (hb5.mono HBL.out.size)
        clear hb5
        go_wp2_with fail
        refine (HNM.out _ (HR2.out.below hB5)).mono ?_
        rintro e w6 ⟨rfl, rfl⟩
        go_wp2_with fail
        go_roundw
        case rel => exact ⟨k + 1, by omega, by go_num, by rw [HR3.out], hB5⟩
        case measure => simp [intOf]; omega
      | true =>
        rw [points_var hkl hn all_fields] at hsv
        rw [hn] at hnm
        have HSV := hid hsv
        have HNM := hid hnm
        have HR3 : Hid (batchTo A (k + 1) = L ++ itemP (Al.leastP A Al.allF) k) := by rw [Hid, HBS.out, if_pos hn]
        have HEA := hid (fun wx (h : ASess wx x A) (h2 : RdS wx v (A.map Al.txt)) => each_any HRW.out.1 HRW.out.2 x A v k wx h HGO.out hsm h2 hkl hn)
        have hsl := setOf_len (Al.leastP A Al.allF) k
        have HIT : Hid (itemP (Al.leastP A Al.allF) k = [varByte k, 58] ++ setOf (Al.leastP A Al.allF) k ++ [59]) := rfl
        have HTV := hid (fun wx => text_var k hkl wx)
        generalize setOf (Al.leastP A Al.allF) k = X at *
        have h58 : ({ data := #[58] } : ByteArray) = bs [58] := rfl
        have h59 : ({ data := #[59] } : ByteArray) = bs [59] := rfl
        have z5 : ∀ l, (bs l).size = l.length := fun _ => rfl
        clear hn hsv hnm
        go_wp2_with fail
        refine (HSV.out _ (HX2.out.below HBL.out)).mono ?_
        rintro e w5 ⟨rfl, hb5⟩
        have hB5 := HBL.out.trans (hb5.mono HBL.out.size)
        clear hb5
        go_wp2_with fail
        refine (HNM.out _ (HR2.out.below hB5)).mono ?_
        rintro e w6 ⟨rfl, rfl⟩
        go_wp2_with fail
        refine (HTV.out _).mono ?_
        rintro e w7 ⟨rfl, hb7⟩
        have hB7 := hB5.trans (hb7.mono hB5.size)
        clear hb7 hB5
        go_wp2_with fail
        refine (HEA.out _ (HX2.out.below hB7) (HR2.out.below hB7)).mono ?_
        rintro e w8 ⟨rfl, hb8⟩
        have hB8 := hB7.trans (hb8.mono hB7.size)
        clear hb8 hB7
        go_wp2_with fail
        exact ⟨⟨k + 1, by omega, by go_num, by rw [HR3.out, HIT.out]; simp, hB8⟩, by simp [intOf]; omega⟩
    · have hk12 : k = 12 := by omega
      subst hk12
      have hB9 := HB2.out.trans (hbel.mono HB2.out.size)
      have HBA := hid (aBatch_any x A wr (HX2.out.below hbel) HGO.out hsm)
      have HBP : Hid (batchP A = batchTo A 12) := rfl
      rw [HBP.out] at HBA
      generalize batchTo A 12 = L at *
      clear hbel
      go_wp2_with fail
      refine HBA.out.mono ?_
      rintro e w5 ⟨rfl, hb5⟩
      have hB5 := hB9.trans (hb5.mono hB9.size)
      clear hb5 hB9
      go_wp2_with fail
      go_ret
      exact ⟨rfl, hB5⟩
theorem Told_some (hRf : RefineOk) (hWy : WhyOk) (g off len cap : Nat) (w : World) (hg : g < w.heap.size) (hlc : len ≤ cap) (hcm : cap ≤ 9223372036854775807)
    (hc : ∀ k, k < len → ∃ (kd W : Int) (s t u : ByteArray), w.cell? ⟨g, off + k * 5, none⟩ = some (.int .i64 kd) ∧ w.cell? ⟨g, off + k * 5 + 1, none⟩ = some (.int .i64 W) ∧ w.cell? ⟨g, off + k * 5 + 2, none⟩ = some (.string s) ∧ w.cell? ⟨g, off + k * 5 + 3, none⟩ = some (.string t) ∧ w.cell? ⟨g, off + k * 5 + 4, none⟩ = some (.string u) ∧ s.size ≤ maxLen ∧ t.size ≤ maxLen ∧ u.size ≤ maxLen) :
    Calls Try.prog 5 #[.slice (some ⟨g, off, none⟩) len cap] w fun e w' => e = .returned (.bool true) ∧ Below w.heap.size w w' := by
  obtain ⟨KD, W, S, T, U, h⟩ := scr_of hc
  obtain ⟨hgo, hsm⟩ := play_ok KD S (cut len)
  exact Told_core hRf hWy _ len cap _ hgo hsm w (made_some g off len cap KD W S T U w hg hlc hcm h) (fun x wx hb hx => list_some x g off len cap KD W S T U wx (Nat.lt_of_lt_of_le hg hb.size) hlc hcm (h.below hg hb) hx)
theorem Told_zero (hRf : RefineOk) (hWy : WhyOk) (ao : Option Addr) (cap : Nat) (w : World) :
    Calls Try.prog 5 #[.slice ao 0 cap] w fun e w' => e = .returned (.bool true) ∧ Below w.heap.size w w' :=
  Told_core hRf hWy ao 0 cap [] Al.good_nil (by simp) w (made_zero ao cap w) (fun x wx _ hx => list_zero x ao cap wx hx)
end Go.Proofs.Ytmjlcajcobbcgab
