import Derived.Test.YtmjlcajcobbcgaaXn
namespace Go.Proofs.Ytmjlcajcobbcgaa
open Go.RowKit

theorem named_x {A : List Al.St} {st : Al.St} (hA : ∀ s ∈ A, Al.Wf s) (hst : st ∈ A) (hc : Al.vB st.2.1.toNat = true) : namedP A (Al.vi st.2.1) = true := by
  rw [named_eq hA hc, List.any_eq_true]; exact ⟨st, hst, by simp⟩
theorem named_y {A : List Al.St} {st : Al.St} (hA : ∀ s ∈ A, Al.Wf s) (hst : st ∈ A) (hc : Al.vB st.2.2.1.toNat = true) : namedP A (Al.vi st.2.2.1) = true := by
  rw [named_eq hA hc, List.any_eq_true]; exact ⟨st, hst, by simp⟩
theorem points_one {A : List Al.St} {c : UInt8} {f : List UInt8} (hc : Al.vB c.toNat = true) (hn : namedP A (Al.vi c) = true) (hf : fieldOk f = true) :
    pointsP A [c] f = (setOf (Al.leastP A f) (Al.vi c), setOf (Al.leastP A f) (Al.vi c) == setOf (Al.leastP A Al.allF) (Al.vi c), 0) := by
  have hv : varN A [c] = (Al.vi c : Nat) := by rw [varN_one, if_pos ⟨hc, hn⟩]
  unfold pointsP
  rw [hv, if_neg (by omega), if_neg (by rw [hf]; simp), Int.toNat_natCast]
theorem points_none {A : List Al.St} {c : UInt8} {f : List UInt8} (hn : ¬ (Al.vB c.toNat = true ∧ namedP A (Al.vi c) = true)) : pointsP A [c] f = ([], false, 5) := by
  have hv : varN A [c] = -1 := by rw [varN_one, if_neg hn]
  unfold pointsP
  rw [hv, if_pos (by decide)]
/-- set of a variable that is named. -/
theorem set_named (b : Nat) (A : List Al.St) (c : UInt8) (f : List UInt8) (w : World) (hS : ASess w b A) (hA : Al.Good A) (hsm : A.length ≤ 24) (hf : fieldOk f = true) (hc : Al.vB c.toNat = true) (hn : namedP A (Al.vi c) = true) :
    Calls Try.prog 29 #[.pointer (some ⟨b, 0, none⟩), .int .u8 (c.toNat : Nat), .string (bs f)] w fun e w' => e = .returned (.tuple #[.string (bs (setOf (Al.leastP A f) (Al.vi c))), .bool true]) ∧ Below w.heap.size w w' := by
  have h := setL_any b A c f w hS hA hsm (Nat.le_trans (fieldOk_len hf) (by decide))
  rw [points_one hc hn hf] at h
  exact h

theorem Below.drewN {B : Nat} {w w' : World} (h : Below B w w') (n : Nat) : Below B w (w'.drewN n) := ⟨h.os, h.tape, h.output, h.size, h.block⟩
theorem least_obeys {A : List Al.St} (hA : ∀ s ∈ A, Al.Wf s) (f : List UInt8) : Al.Obeys A f (Al.leastP A f) := (Al.leastP_is (Al.varsOk_of_wf hA) f).1
theorem slice_one (l : List UInt8) (c : UInt8) (h : (l.drop 3).take 1 = [c]) : (bs l).extract 3 4 = bs [c] := by
  rw [extract_bs]
  show bs ((l.drop 3).take 1) = bs [c]
  rw [h]

/-- What Narrower asks of a variable's three sets. -/
theorem text_var (k : Nat) (hk : k < 12) (w : World) : Calls Try.prog 33 #[.int .u8 (97 + (k : Int))] w fun e w' => e = .returned (.string (bs [varByte k])) ∧ Below w.heap.size w w' := by
  have h := textL_any (varByte k) w
  rw [varByte_toNat hk] at h
  exact h
theorem set_var (b : Nat) (A : List Al.St) (k : Nat) (f : List UInt8) (w : World) (hk : k < 12) (hS : ASess w b A) (hA : Al.Good A) (hsm : A.length ≤ 24) (hf : f.length ≤ 9223372036854775807) :
    Calls Try.prog 29 #[.pointer (some ⟨b, 0, none⟩), .int .u8 (97 + (k : Int)), .string (bs f)] w fun e w' => e = .returned (.tuple #[.string (bs (pointsP A [varByte k] f).1), .bool (((pointsP A [varByte k] f).2.2 : Int) == 0)]) ∧ Below w.heap.size w w' := by
  have h := setL_any b A (varByte k) f w hS hA hsm hf
  rw [varByte_toNat hk] at h
  exact h
theorem points_var {A : List Al.St} {k : Nat} {f : List UInt8} (hk : k < 12) (hn : namedP A k = true) (hf : fieldOk f = true) :
    pointsP A [varByte k] f = (setOf (Al.leastP A f) k, setOf (Al.leastP A f) k == setOf (Al.leastP A Al.allF) k, 0) := by
  obtain ⟨h1, h2⟩ := varByte_ok hk
  rw [points_one h1 (by rw [h2]; exact hn) hf, h2]
theorem points_var_no {A : List Al.St} {k : Nat} {f : List UInt8} (hk : k < 12) (hn : namedP A k = false) : pointsP A [varByte k] f = ([], false, 5) := by
  obtain ⟨h1, h2⟩ := varByte_ok hk
  exact points_none (by rw [h2, hn]; simp)
theorem all_subset {f : List UInt8} (c : UInt8) (hc : Al.fB c.toNat = true) (_h : Al.told f c = true) : Al.told Al.allF c = true := all_told hc

end Go.Proofs.Ytmjlcajcobbcgaa

namespace Go.Proofs.Ytmjlcajcobbcgaa
open Go.RowKit

set_option maxRecDepth 100000 in
set_option maxHeartbeats 1000000 in
theorem obeyed_new (b : Nat) (A : List Al.St) (x o : UInt8) (v : Value) (f : List UInt8) (w : World) (hS : ASess w b A) (hA : Al.Good A) (hsm : A.length ≤ 24) (hf : fieldOk f = true) (hst : ((0, x, 0, o, 0) : Al.St) ∈ A) (h0 : Al.vB x.toNat = true) (h1 : Al.oB o.toNat = true) :
    Calls Try.prog 26 #[.pointer (some ⟨b, 0, none⟩), v, .string (bs [x, 61, 64, o, 59]), .string (bs f)] w fun e w' => e = .returned (.bool true) ∧ Below w.heap.size w w' := by
  have HSX := hid (fun wx (h : ASess wx b A) => set_named b A x f wx h hA hsm hf h0 (named_x (st := (0, x, 0, o, 0)) hA.1 hst h0))
  have s0 := ix [x, 61, 64, o, 59] 0 0 x.toNat rfl rfl
  have s1 := ix [x, 61, 64, o, 59] 1 1 61 rfl rfl
  have s2 := ix [x, 61, 64, o, 59] 2 2 64 rfl rfl
  have hsl : (bs [x, 61, 64, o, 59]).extract 3 4 = bs [o] := slice_one _ o rfl
  have hz : (bs [x, 61, 64, o, 59]).size = 5 := rfl
  have hob : Al.leastP A f (Al.vi x) (Al.si o) = true := (least_obeys hA.1 f _ hst).1 rfl
  have hlo := si_lt h1
  have hsb : siteB (Al.si o) = o := by
    have := o_bd h1
    refine UInt8.toNat_inj.1 ?_
    rw [siteB_toNat hlo]; unfold Al.si; omega
  have hin : insideP [o] (setOf (Al.leastP A f) (Al.vi x)) = true := by
    unfold insideP
    rw [List.all_cons, List.all_nil, Bool.and_true, ← hsb, told_set hlo]
    exact hob
  have hsl2 := setOf_len (Al.leastP A f) (Al.vi x)
  have HIN := hid (fun wx => inside_any [o] (setOf (Al.leastP A f) (Al.vi x)) wx (by simp) (by omega))
  rw [hin] at HIN
  have HS := hid hS
  generalize setOf (Al.leastP A f) (Al.vi x) = X at *
  clear hS hst hob hin hsb hlo hsl2
  go_enter Try.func26, Try.ntmps26
  go_wp2_with fail
  refine (HSX.out _ HS.out).mono ?_
  rintro e w1 ⟨rfl, hb1⟩
  go_wp2_with (go_at_call 32; refine (HIN.out _).mono ?_; rintro e w' ⟨rfl, rfl⟩)
  go_ret
  exact ⟨rfl, hb1⟩
set_option maxRecDepth 100000 in
set_option maxHeartbeats 1000000 in
theorem obeyed_store (b : Nat) (A : List Al.St) (x y pf : UInt8) (v : Value) (f : List UInt8) (w : World) (hS : ASess w b A) (hA : Al.Good A) (hsm : A.length ≤ 24) (hf : fieldOk f = true) (hst : ((3, x, y, 0, pf) : Al.St) ∈ A) (h0 : Al.vB x.toNat = true) :
    Calls Try.prog 26 #[.pointer (some ⟨b, 0, none⟩), v, .string (bs [x, 46, pf, 61, y, 59]), .string (bs f)] w fun e w' => e = .returned (.bool true) ∧ Below w.heap.size w w' := by
  have HSX := hid (fun wx (h : ASess wx b A) => set_named b A x f wx h hA hsm hf h0 (named_x (st := (3, x, y, 0, pf)) hA.1 hst h0))
  have s0 := ix [x, 46, pf, 61, y, 59] 0 0 x.toNat rfl rfl
  have s1 := ix [x, 46, pf, 61, y, 59] 1 1 46 rfl rfl
  have HS := hid hS
  generalize setOf (Al.leastP A f) (Al.vi x) = X at *
  clear hS hst
  go_enter Try.func26, Try.ntmps26
  go_wp2_with fail
  refine (HSX.out _ HS.out).mono ?_
  rintro e w1 ⟨rfl, hb1⟩
  go_wp2_with fail
  go_ret
  exact ⟨rfl, hb1⟩
set_option maxRecDepth 100000 in
set_option maxHeartbeats 1000000 in
theorem obeyed_copy (b : Nat) (A : List Al.St) (x y : UInt8) (v : Value) (f : List UInt8) (w : World) (hS : ASess w b A) (hA : Al.Good A) (hsm : A.length ≤ 24) (hf : fieldOk f = true) (hst : ((1, x, y, 0, 0) : Al.St) ∈ A) (h0 : Al.vB x.toNat = true) (h1 : Al.vB y.toNat = true) :
    Calls Try.prog 26 #[.pointer (some ⟨b, 0, none⟩), v, .string (bs [x, 61, y, 59]), .string (bs f)] w fun e w' => e = .returned (.bool true) ∧ Below w.heap.size w w' := by
  have HSX := hid (fun wx (h : ASess wx b A) => set_named b A x f wx h hA hsm hf h0 (named_x (st := (1, x, y, 0, 0)) hA.1 hst h0))
  have HSY := hid (fun wx (h : ASess wx b A) => set_named b A y f wx h hA hsm hf h1 (named_y (st := (1, x, y, 0, 0)) hA.1 hst h1))
  have s0 := ix [x, 61, y, 59] 0 0 x.toNat rfl rfl
  have s1 := ix [x, 61, y, 59] 1 1 61 rfl rfl
  have s2 := ix [x, 61, y, 59] 2 2 y.toNat rfl rfl
  have hz : (bs [x, 61, y, 59]).size = 4 := rfl
  have hyb := v_bd h1
  have hfy : ((y.toNat : Int) == 64) = false := beq_eq_false_iff_ne.2 (by omega)
  have hin : insideP (setOf (Al.leastP A f) (Al.vi y)) (setOf (Al.leastP A f) (Al.vi x)) = true := inside_set.2 ((least_obeys hA.1 f _ hst).2.1 rfl)
  have hl1 := setOf_len (Al.leastP A f) (Al.vi x)
  have hl2 := setOf_len (Al.leastP A f) (Al.vi y)
  have HIN := hid (fun wx => inside_any (setOf (Al.leastP A f) (Al.vi y)) (setOf (Al.leastP A f) (Al.vi x)) wx (by omega) (by omega))
  rw [hin] at HIN
  have HS := hid hS
  generalize setOf (Al.leastP A f) (Al.vi x) = X at *
  generalize setOf (Al.leastP A f) (Al.vi y) = Y at *
  clear hS hst hin hl1 hl2 hyb
  go_enter Try.func26, Try.ntmps26
  go_wp2_with fail
  refine (HSX.out _ HS.out).mono ?_
  rintro e w1 ⟨rfl, hb1⟩
  go_wp2_with fail
  refine (HSY.out _ (HS.out.below hb1)).mono ?_
  rintro e w2 ⟨rfl, hb2⟩
  go_wp2_with (go_at_call 32; refine (HIN.out _).mono ?_; rintro e w' ⟨rfl, rfl⟩)
  go_ret
  exact ⟨rfl, hb1.trans (hb2.mono hb1.size)⟩

set_option maxRecDepth 100000 in
set_option maxHeartbeats 2000000 in
theorem obeyed_load (b : Nat) (A : List Al.St) (x y sf : UInt8) (gl cap : Nat) (f : List UInt8) (w : World) (hS : ASess w b A) (hA : Al.Good A) (hsm : A.length ≤ 24) (hf : fieldOk f = true) (hst : ((2, x, y, 0, sf) : Al.St) ∈ A) (h0 : Al.vB x.toNat = true) (h1 : Al.vB y.toNat = true)
    (hgl : gl < w.heap.size) (hc : ∀ k (h : k < A.length), w.cell? ⟨gl, k, none⟩ = some (.string (bs (Al.txt A[k])))) :
    Calls Try.prog 26 #[.pointer (some ⟨b, 0, none⟩), .slice (some ⟨gl, 0, none⟩) A.length cap, .string (bs [x, 61, y, 46, sf, 59]), .string (bs f)] w fun e w' => e = .returned (.bool true) ∧ Below w.heap.size w w' := by
  have HSX := hid (fun wx (h : ASess wx b A) => set_named b A x f wx h hA hsm hf h0 (named_x (st := (2, x, y, 0, sf)) hA.1 hst h0))
  have HSY := hid (fun wx (h : ASess wx b A) => set_named b A y f wx h hA hsm hf h1 (named_y (st := (2, x, y, 0, sf)) hA.1 hst h1))
  have HTO := hid (fun wx => Told_any f sf wx (Nat.le_trans (fieldOk_len hf) (by decide)))
  have HSN := hid (fun c wx (h : ASess wx b A) hc hn => set_named b A c f wx h hA hsm hf hc hn)
  have HOB := hid ((least_obeys hA.1 f _ hst).2.2 rfl)
  have s0 := ix [x, 61, y, 46, sf, 59] 0 0 x.toNat rfl rfl
  have s1 := ix [x, 61, y, 46, sf, 59] 1 1 61 rfl rfl
  have s2 := ix [x, 61, y, 46, sf, 59] 2 2 y.toNat rfl rfl
  have s4 := ix [x, 61, y, 46, sf, 59] 4 4 sf.toNat rfl rfl
  have hz : (bs [x, 61, y, 46, sf, 59]).size = 6 := rfl
  have hyb := v_bd h1
  have hfy : ((y.toNat : Int) == 64) = false := beq_eq_false_iff_ne.2 (by omega)
  have HSL := hid (fun v => setOf_len (Al.leastP A f) v)
  have HS := hid hS
  have HC := hid hc
  have HA := hid hA
  obtain ⟨X, hX⟩ : ∃ X, setOf (Al.leastP A f) (Al.vi x) = X := ⟨_, rfl⟩
  obtain ⟨Y, hY⟩ : ∃ Y, setOf (Al.leastP A f) (Al.vi y) = Y := ⟨_, rfl⟩
  rw [hX] at HSX
  rw [hY] at HSY
  have HXE := hid hX
  have HYE := hid hY
  generalize Al.told f sf = tld at *
  clear hS hst hyb hc hX hY h0 h1 hf hA
  go_enter Try.func26, Try.ntmps26
  go_wp2_with fail
  refine (HSX.out _ HS.out).mono ?_
  rintro e w1 ⟨rfl, hb1⟩
  go_wp2_with fail
  refine (HSY.out _ (HS.out.below hb1)).mono ?_
  rintro e w2 ⟨rfl, hb2⟩
  have HB2 := hid (hb1.trans (hb2.mono hb1.size))
  clear hb1 hb2
  go_wp2_with (go_at_call 58; refine (HTO.out _).mono ?_; rintro e w' ⟨rfl, rfl⟩)
  go_loopw [14] (fun i wr => ∃ k : Nat, k ≤ A.length ∧ i = .int .i64 k ∧ Below w.heap.size w wr) (fun i _ => A.length - (intOf i).toNat)
  case atStart => exact ⟨0, Nat.zero_le _, rfl, HB2.out⟩
  case round =>
    obtain ⟨k, hk, rfl, hbel⟩ := hrel
    have hsz := hbel.size
    by_cases hlt : k < A.length
    · have hcell := cell_below hbel (HC.out k hlt) hgl
      have HMM : Hid (A[k] ∈ A) := List.getElem_mem hlt
      have hwf := HA.out.1 A[k] (List.getElem_mem hlt)
      generalize A[k] = p at *
      have HBL := hid hbel
      clear hbel
      rcases wf_cases hwf with ⟨px, o, rfl, q0, q1⟩ | ⟨px, py, rfl, q0, q1⟩ | ⟨px, py, pf, rfl, q0, q1, q2⟩ | ⟨px, py, pf, rfl, q0, q1, q2⟩
      · rw [txt0] at hcell
        have p1 := ix [px, 61, 64, o, 59] 1 1 61 rfl rfl
        clear hwf q0 q1
        go_wp2_with fail
        go_quiet (fail)
        go_wp2_with fail
        go_roundw
        case rel => exact ⟨k + 1, by omega, by go_num, Below.drewN HBL.out _⟩
        case measure => simp [intOf]; omega
      · rw [txt1] at hcell
        have p1 := ix [px, 61, py, 59] 1 1 61 rfl rfl
        clear hwf q0 q1
        go_wp2_with fail
        go_quiet (fail)
        go_wp2_with fail
        go_roundw
        case rel => exact ⟨k + 1, by omega, by go_num, Below.drewN HBL.out _⟩
        case measure => simp [intOf]; omega
      · rw [txt2] at hcell
        have p1 := ix [px, 61, py, 46, pf, 59] 1 1 61 rfl rfl
        clear hwf q0 q1
        go_wp2_with fail
        go_quiet (fail)
        go_wp2_with fail
        go_roundw
        case rel => exact ⟨k + 1, by omega, by go_num, Below.drewN HBL.out _⟩
        case measure => simp [intOf]; omega
      · rw [txt3] at hcell
        have p0 := ix [px, 46, pf, 61, py, 59] 0 0 px.toNat rfl rfl
        have p1 := ix [px, 46, pf, 61, py, 59] 1 1 46 rfl rfl
        have p2 := ix [px, 46, pf, 61, py, 59] 2 2 pf.toNat rfl rfl
        have p4 := ix [px, 46, pf, 61, py, 59] 4 4 py.toNat rfl rfl
        by_cases hpe : pf = sf
        · subst hpe
          have HO1 := hid (HOB.out _ HMM.out rfl rfl)
          have HPX := hid (fun wx h => HSN.out px wx h q0 (named_x (st := (3, px, py, 0, pf)) HA.out.1 HMM.out q0))
          have HPY := hid (fun wx h => HSN.out py wx h q1 (named_y (st := (3, px, py, 0, pf)) HA.out.1 HMM.out q1))
          have l1 := HSL.out (Al.vi px)
          have l2 := HSL.out (Al.vi py)
          have l3 := HSL.out (Al.vi x)
          have l4 := HSL.out (Al.vi y)
          rw [HXE.out] at l3
          rw [HYE.out] at l4
          have hkey : (tld = false ∨ meetP (setOf (Al.leastP A f) (Al.vi px)) Y = true) → insideP (setOf (Al.leastP A f) (Al.vi py)) X = true := by
            intro h
            rw [← HXE.out]
            refine inside_set.2 (HO1.out (h.imp id fun h => ?_))
            rw [← HYE.out] at h
            exact meet_set.1 h
          have HME := hid (fun wx => meetL_any (setOf (Al.leastP A f) (Al.vi px)) Y wx (by omega) (by omega))
          have HIN := hid (fun wx => inside_any (setOf (Al.leastP A f) (Al.vi py)) X wx (by omega) (by omega))
          generalize setOf (Al.leastP A f) (Al.vi px) = PX at *
          generalize setOf (Al.leastP A f) (Al.vi py) = PY at *
          generalize meetP PX Y = mb at *
          generalize insideP PY X = ib at *
          clear hwf q0 q1 q2 l1 l2 l3 l4
          go_wp2_with fail
          go_quiet (fail)
          go_wp2_with fail
          have hB2 := Below.drewN HBL.out nq
          refine (HPX.out _ (HS.out.below hB2)).mono ?_
          rintro e w3 ⟨rfl, hb3⟩
          have hB3 := hB2.trans (hb3.mono hB2.size)
          clear hb3 hB2
          go_wp2_with fail
          refine (HPY.out _ (HS.out.below hB3)).mono ?_
          rintro e w4 ⟨rfl, hb4⟩
          have hB4 := hB3.trans (hb4.mono hB3.size)
          clear hb4 hB3
          go_wp2_with (first | (go_at_call 59; refine (HME.out _).mono ?_; rintro e w' ⟨rfl, rfl⟩))
          refine (HIN.out _).mono ?_
          rintro e w5 ⟨rfl, rfl⟩
          have HKEY := hid hkey
          clear hkey
          rcases ib with _ | _
          · have ht : tld = true := by
              rcases tld with _ | _
              · exact absurd (HKEY.out (.inl rfl)) (by simp)
              · rfl
            have hm : mb = false := by
              rcases mb with _ | _
              · rfl
              · exact absurd (HKEY.out (.inr rfl)) (by simp)
            subst ht hm
            go_wp2_with fail
            go_roundw
            case rel => exact ⟨k + 1, by omega, by go_num, hB4⟩
            case measure => simp [intOf]; omega
          · rcases mb with _ | _
            · rcases tld with _ | _
              · go_wp2_with fail
                go_roundw
                case rel => exact ⟨k + 1, by omega, by go_num, hB4⟩
                case measure => simp [intOf]; omega
              · go_wp2_with fail
                go_roundw
                case rel => exact ⟨k + 1, by omega, by go_num, hB4⟩
                case measure => simp [intOf]; omega
            · go_wp2_with fail
              go_roundw
              case rel => exact ⟨k + 1, by omega, by go_num, hB4⟩
              case measure => simp [intOf]; omega
        · have hne : ((pf.toNat : Int) == (sf.toNat : Int)) = false := beq_eq_false_iff_ne.2 (fun h => hpe (UInt8.toNat_inj.1 (by omega)))
          clear hwf q0 q1 q2 hpe
          go_wp2_with fail
          go_quiet (fail)
          go_wp2_with fail
          go_roundw
          case rel => exact ⟨k + 1, by omega, by go_num, Below.drewN HBL.out _⟩
          case measure => simp [intOf]; omega
    · go_wp2
      go_ret
      exact ⟨rfl, hbel⟩
theorem obeyed_any (b : Nat) (A : List Al.St) (st : Al.St) (gl cap : Nat) (f : List UInt8) (w : World) (hS : ASess w b A) (hA : Al.Good A) (hsm : A.length ≤ 24) (hf : fieldOk f = true) (hst : st ∈ A)
    (hgl : gl < w.heap.size) (hc : ∀ k (h : k < A.length), w.cell? ⟨gl, k, none⟩ = some (.string (bs (Al.txt A[k])))) :
    Calls Try.prog 26 #[.pointer (some ⟨b, 0, none⟩), .slice (some ⟨gl, 0, none⟩) A.length cap, .string (bs (Al.txt st)), .string (bs f)] w fun e w' => e = .returned (.bool true) ∧ Below w.heap.size w w' := by
  rcases wf_cases (hA.1 st hst) with ⟨x, o, rfl, h0, h1⟩ | ⟨x, y, rfl, h0, h1⟩ | ⟨x, y, sf, rfl, h0, h1, h2⟩ | ⟨x, y, sf, rfl, h0, h1, h2⟩
  · rw [txt0]; exact obeyed_new b A x o _ f w hS hA hsm hf hst h0 h1
  · rw [txt1]; exact obeyed_copy b A x y _ f w hS hA hsm hf hst h0 h1
  · rw [txt2]; exact obeyed_load b A x y sf gl cap f w hS hA hsm hf hst h0 h1 hgl hc
  · rw [txt3]; exact obeyed_store b A x y sf _ f w hS hA hsm hf hst h0
end Go.Proofs.Ytmjlcajcobbcgaa

namespace Go.Proofs.Ytmjlcajcobbcgaa
open Go.RowKit

set_option maxRecDepth 100000 in
set_option maxHeartbeats 4000000 in
theorem Closed_scr (g off len cap : Nat) (KD W : Nat → Int) (S T U : Nat → ByteArray) (w : World) (hg : g < w.heap.size) (hlc : len ≤ cap) (hcm : cap ≤ 9223372036854775807) (hc : Scr w g off len KD W S T U) :
    Calls Try.prog 7 #[.slice (some ⟨g, off, none⟩) len cap] w fun e w' => e = .returned (.bool true) ∧ Below w.heap.size w w' := by
  have HM := hid (made_some g off len cap KD W S T U w hg hlc hcm hc)
  have HC := hid hc
  obtain ⟨hgo, hsm⟩ := play_ok KD S (cut len)
  have HL := hid (fun x wx (hgx : g < wx.heap.size) (hcx : Scr wx g off len KD W S T U) (hx : ASess wx x (playP KD S (cut len))) => list_some x g off len cap KD W S T U wx hgx hlc hcm hcx hx)
  generalize playP KD S (cut len) = A at *
  have HGO := hid hgo
  clear hc hgo
  go_enter Try.func7, Try.ntmps7
  go_wp2_with fail
  refine HM.out.mono ?_
  rintro e w1 ⟨x, rfl, hx1, hxs, hb1⟩
  have HL1 := hid (HL.out x w1 (Nat.lt_of_lt_of_le hg hb1.size) (HC.out.below hg hb1) hx1)
  have HX1 := hid hx1
  have HB1 := hid hb1
  clear hx1 hb1
  go_wp2_with fail
  refine HL1.out.mono ?_
  rintro e w2 ⟨v, rfl, hr2, hb2⟩
  have HX2 := hid (HX1.out.below hb2)
  have hB2 := HB1.out.trans (hb2.mono HB1.out.size)
  have HB2 := hid hB2
  have HC2 := hid (HC.out.below hg hB2)
  have hg2 : g < w2.heap.size := Nat.lt_of_lt_of_le hg hB2.size
  obtain ⟨ao, c, hve⟩ := rdS_len hr2
  rw [List.length_map] at hve
  have HR2 := hid hr2
  clear hr2 hb2 hB2
  subst hve
  go_wp2_with fail
  go_loopw [7] (fun i wr => ∃ k : Nat, k ≤ len ∧ i = .int .i64 k ∧ Below w2.heap.size w2 wr) (fun i _ => len - (intOf i).toNat)
  case atStart => exact ⟨0, Nat.zero_le _, rfl, Below.refl _ _⟩
  case round =>
    obtain ⟨k, hk, rfl, hbel⟩ := hrel
    by_cases hlt : k < len
    · by_cases hmax : (k : Int) < 1152921504606846976
      · obtain ⟨c0, c1, c2, c3, c4, _, _, hus⟩ := HC2.out k hlt
        have d4 := cell_below hbel c4 hg2
        obtain ⟨Uk, hUk⟩ : ∃ q, U k = q := ⟨_, rfl⟩
        rw [hUk] at d4 hus
        have hul : Uk.data.toList.length ≤ 9223372036854775807 := hus
        have hft := fun wx => FieldText_any Uk.data.toList wx hul
        simp only [bs_back] at hft
        have HFT := hid hft
        have HBL := hid hbel
        clear hft hbel c0 c1 c2 c3 c4 hUk hus hul
        go_wp2_with fail
        refine (HFT.out _).mono ?_
        rintro e w3 ⟨rfl, n3, hw3⟩
        have hB3 : Below w2.heap.size w2 w3 := by rw [hw3]; exact Below.drewN HBL.out _
        clear hw3 d4
        cases hfo : fieldOk Uk.data.toList with
        | false =>
          clear hfo
          go_wp2_with fail
          refine wp_loop_rounds 1 ?_
          rw [rounds_succ]
          by_cases hz : 0 < A.length
          · have hz2 : (0 : Int) < (A.length : Int) := by omega
            go_wp2_with fail
            go_roundw
            case rel => (first | exact ⟨k + 1, by omega, by go_num, hB3⟩ | ((repeat apply Exists.intro); refine ⟨?_, rfl⟩; exact ⟨k + 1, by omega, by go_num, hB3⟩))
            case measure => simp [intOf]; omega
          · have hz2 : decide ((0 : Int) < (A.length : Int)) = false := decide_eq_false (by omega)
            have hz3 : decide (0 < A.length) = false := decide_eq_false (by omega)
            go_wp2_with fail
            go_roundw
            case rel => (first | exact ⟨k + 1, by omega, by go_num, hB3⟩ | ((repeat apply Exists.intro); refine ⟨?_, rfl⟩; exact ⟨k + 1, by omega, by go_num, hB3⟩))
            case measure => simp [intOf]; omega
        | true =>
          have HFO := hid hfo
          have HB3 := hid hB3
          clear hfo hB3
          go_wp2_with fail
          go_loopw [10] (fun i wr => ∃ j : Nat, j ≤ A.length ∧ i = .int .i64 j ∧ Below w2.heap.size w2 wr) (fun i _ => A.length - (intOf i).toNat)
          case atStart => exact ⟨0, Nat.zero_le _, rfl, HB3.out⟩
          case round =>
            obtain ⟨j, hj, rfl, hbel⟩ := hrel
            by_cases hjl : j < A.length
            · rcases HR2.out.shape with ⟨_, hn⟩ | ⟨gl, cap2, he, _, _, hgl, hcl⟩
              · have : A = [] := by simpa using hn
                subst this; simp at hjl
              · simp only [Value.slice.injEq] at he
                obtain ⟨rfl, hlen, rfl⟩ := he
                clear hlen
                have hcl2 : ∀ q (h : q < A.length), w2.cell? ⟨gl, q, none⟩ = some (.string (bs (Al.txt A[q]))) := fun q h => by have := hcl q (by simpa using h); simpa using this
                have hcj := cell_below hbel (hcl2 j hjl) hgl
                have HOB := hid (obeyed_any x A A[j] gl c Uk.data.toList wr (HX2.out.below hbel) HGO.out hsm HFO.out (List.getElem_mem hjl) (Nat.lt_of_lt_of_le hgl hbel.size) (fun q h => cell_below hbel (hcl2 q h) hgl))
                rw [bs_back] at HOB
                generalize A[j] = st at *
                have HBL2 := hid hbel
                clear hcl hcl2 hbel
                go_wp2_with fail
                refine HOB.out.mono ?_
                rintro e w5 ⟨rfl, hb5⟩
                have hB5 := HBL2.out.trans (hb5.mono HBL2.out.size)
                clear hb5 hcj
                go_wp2_with fail
                go_roundw
                case rel => exact ⟨j + 1, by omega, by go_num, hB5⟩
                case measure => simp [intOf]; omega
            · have hd : decide ((j : Int) < (A.length : Int)) = false := by simp; omega
              have hd3 : decide (j < A.length) = false := by simp; omega
              have hB3 := hbel
              clear hbel
              go_wp2_with fail
              go_roundw
              case rel => (first | exact ⟨k + 1, by omega, by go_num, hB3⟩ | ((repeat apply Exists.intro); refine ⟨?_, rfl⟩; exact ⟨k + 1, by omega, by go_num, hB3⟩))
              case measure => simp [intOf]; omega
      · have hd2 : decide ((k : Int) < 1152921504606846976) = false := by simpa using hmax
        clear hmax
        go_wp2_with fail
        go_ret
        exact ⟨rfl, HB2.out.trans (hbel.mono HB2.out.size)⟩
    · have hd : decide ((k : Int) < (len : Int)) = false := by simp; omega
      go_wp2_with fail
      go_ret
      exact ⟨rfl, HB2.out.trans (hbel.mono HB2.out.size)⟩
theorem Closed_some (g off len cap : Nat) (w : World) (hg : g < w.heap.size) (hlc : len ≤ cap) (hcm : cap ≤ 9223372036854775807)
    (hc : ∀ k, k < len → ∃ (kd W : Int) (s t u : ByteArray), w.cell? ⟨g, off + k * 5, none⟩ = some (.int .i64 kd) ∧ w.cell? ⟨g, off + k * 5 + 1, none⟩ = some (.int .i64 W) ∧ w.cell? ⟨g, off + k * 5 + 2, none⟩ = some (.string s) ∧ w.cell? ⟨g, off + k * 5 + 3, none⟩ = some (.string t) ∧ w.cell? ⟨g, off + k * 5 + 4, none⟩ = some (.string u) ∧ s.size ≤ maxLen ∧ t.size ≤ maxLen ∧ u.size ≤ maxLen) :
    Calls Try.prog 7 #[.slice (some ⟨g, off, none⟩) len cap] w fun e w' => e = .returned (.bool true) ∧ Below w.heap.size w w' := by
  obtain ⟨KD, W, S, T, U, h⟩ := scr_of hc
  exact Closed_scr g off len cap KD W S T U w hg hlc hcm h
set_option maxRecDepth 100000 in
set_option maxHeartbeats 1000000 in
theorem Closed_zero (ao : Option Addr) (cap : Nat) (w : World) :
    Calls Try.prog 7 #[.slice ao 0 cap] w fun e w' => e = .returned (.bool true) ∧ Below w.heap.size w w' := by
  have HM := hid (made_zero ao cap w)
  have HL := hid (fun x wx (hx : ASess wx x []) => list_zero x ao cap wx hx)
  go_enter Try.func7, Try.ntmps7
  go_wp2_with fail
  refine HM.out.mono ?_
  rintro e w1 ⟨x, rfl, hx1, hxs, hb1⟩
  go_wp2_with fail
  refine (HL.out x _ hx1).mono ?_
  rintro e w2 ⟨v, rfl, hr2, hb2⟩
  go_wp2_with fail
  refine wp_loop_rounds 1 ?_
  rw [rounds_succ]
  go_wp2_with fail
  go_ret
  exact ⟨rfl, hb1.trans (hb2.mono hb1.size)⟩
end Go.Proofs.Ytmjlcajcobbcgaa
