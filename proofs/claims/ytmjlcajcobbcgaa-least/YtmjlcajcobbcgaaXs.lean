import Derived.Test.YtmjlcajcobbcgaaXr
namespace Go.Proofs.Ytmjlcajcobbcgaa
open Go.RowKit

/-- P7 of one statement, of any table (all fields told apart). -/
def loadAll (T : Al.Tb) (x y f : UInt8) (p : Al.St) : Bool :=
  !(p.1 == 3 && p.2.2.2.2 == f) || (!Al.meetT T (Al.vi p.2.1) (Al.vi y) || insideP (setOf T (Al.vi p.2.2.1)) (setOf T (Al.vi x)))
def allowsP (A : List Al.St) (T : Al.Tb) (st : Al.St) : Bool :=
  if st.1 = 3 then true else if st.1 = 0 then insideP [st.2.2.2.1] (setOf T (Al.vi st.2.1)) else if st.1 = 1 then insideP (setOf T (Al.vi st.2.2.1)) (setOf T (Al.vi st.2.1)) else
    A.all (loadAll T st.2.1 st.2.2.1 st.2.2.2.2)
theorem allows_obeys {A : List Al.St} (hA : ∀ s ∈ A, Al.Wf s) {T : Al.Tb} (h : ∀ s ∈ A, allowsP A T s = true) : Al.Obeys A Al.allF T := by
  intro s hs
  have ha := h s hs
  have hw := hA s hs
  unfold allowsP at ha
  refine ⟨fun c => ?_, fun c => ?_, fun c => ?_⟩
  · rw [if_neg (by omega), if_pos c] at ha
    rcases wf_cases hw with ⟨x, o, rfl, h0, h1⟩ | ⟨x, y, rfl, h0, h1⟩ | ⟨x, y, f, rfl, h0, h1, h2⟩ | ⟨x, y, f, rfl, h0, h1, h2⟩
    · have hlo := si_lt h1
      have hsb : siteB (Al.si o) = o := by
        have := o_bd h1
        refine UInt8.toNat_inj.1 ?_
        rw [siteB_toNat hlo]; unfold Al.si; omega
      simp only at ha ⊢
      unfold insideP at ha
      rw [List.all_cons, List.all_nil, Bool.and_true, ← hsb, told_set hlo] at ha
      exact ha
    · simp at c
    · simp at c
    · simp at c
  · rw [if_neg (by omega), if_neg (by omega), if_pos c] at ha
    exact inside_set.1 ha
  · rw [if_neg (by omega), if_neg (by omega), if_neg (by omega), List.all_eq_true] at ha
    intro p hp h3 h4 h5 o ho hto
    have hb := ha p hp
    have hf : Al.fB s.2.2.2.2.toNat = true := by
      rcases hw.2 with ⟨h, _⟩ | ⟨h, _⟩ | ⟨_, _, _, h⟩
      · omega
      · omega
      · exact h
    rcases h5 with h5 | ⟨q, hq, q1, q2⟩
    · rw [all_told hf] at h5; cases h5
    · unfold loadAll at hb
      rw [h3, h4, (Al.meet_iff _ _ _).2 ⟨q, hq, q1, q2⟩] at hb
      simp only [BEq.rfl, Bool.and_true, Bool.not_true, Bool.false_or] at hb
      exact inside_set.1 hb o ho hto
theorem least_within {A : List Al.St} (hA : ∀ s ∈ A, Al.Wf s) {T : Al.Tb} (h : ∀ s ∈ A, allowsP A T s = true) (v : Nat) : insideP (setOf (Al.leastP A Al.allF) v) (setOf T v) = true :=
  inside_set.2 ((Al.leastP_is (Al.varsOk_of_wf hA) Al.allF).2 T (allows_obeys hA h) v)

set_option maxRecDepth 100000 in
set_option maxHeartbeats 1000000 in
theorem allows_store (A : List Al.St) (x y pf : UInt8) (v : Value) (g : Nat) (T : Al.Tb) (w : World) :
    Calls Try.prog 28 #[v, .slice (some ⟨g, 0, none⟩) 144 144, .string (bs [x, 46, pf, 61, y, 59])] w fun e w' => e = .returned (.bool (allowsP A T (3, x, y, 0, pf))) ∧ Below w.heap.size w w' := by
  have s1 := ix [x, 46, pf, 61, y, 59] 1 1 46 rfl rfl
  go_enter Try.func28, Try.ntmps28
  go_wp2_with fail
  go_ret
  exact ⟨rfl, Below.refl _ _⟩
set_option maxRecDepth 100000 in
set_option maxHeartbeats 1000000 in
theorem allows_new (A : List Al.St) (x o : UInt8) (v : Value) (g : Nat) (T : Al.Tb) (w : World) (ht : Tab w g T) (h0 : Al.vB x.toNat = true) :
    Calls Try.prog 28 #[v, .slice (some ⟨g, 0, none⟩) 144 144, .string (bs [x, 61, 64, o, 59])] w fun e w' => e = .returned (.bool (allowsP A T (0, x, 0, o, 0))) ∧ Below w.heap.size w w' := by
  have s0 := ix [x, 61, 64, o, 59] 0 0 x.toNat rfl rfl
  have s1 := ix [x, 61, 64, o, 59] 1 1 61 rfl rfl
  have s2 := ix [x, 61, 64, o, 59] 2 2 64 rfl rfl
  have hsl : (bs [x, 61, 64, o, 59]).extract 3 4 = bs [o] := slice_one _ o rfl
  have hz : (bs [x, 61, 64, o, 59]).size = 5 := rfl
  have HAP : Hid (allowsP A T (0, x, 0, o, 0) = insideP [o] (setOf T (Al.vi x))) := rfl
  have lx := vi_lt h0
  have HV := hid (fun wx => Var_ok x wx h0)
  have HS := hid (fun wx (h : Tab wx g T) => Set_any g T (Al.vi x) wx h lx)
  have hl := setOf_len T (Al.vi x)
  have HI := hid (fun wx => inside_any [o] (setOf T (Al.vi x)) wx (by simp) (by omega))
  have HT := hid ht
  generalize setOf T (Al.vi x) = X at *
  generalize Al.vi x = N at *
  clear hl h0 ht
  go_enter Try.func28, Try.ntmps28
  go_wp2_with (go_at_call 61; refine (HV.out _).mono ?_; rintro e w' ⟨rfl, rfl⟩)
  refine (HS.out _ HT.out).mono ?_
  rintro e w1 ⟨rfl, hb1⟩
  go_wp2_with (go_at_call 32; refine (HI.out _).mono ?_; rintro e w' ⟨rfl, rfl⟩)
  go_ret
  exact ⟨by rw [HAP.out]; rfl, hb1⟩
set_option maxRecDepth 100000 in
set_option maxHeartbeats 1000000 in
theorem allows_copy (A : List Al.St) (x y : UInt8) (v : Value) (g : Nat) (T : Al.Tb) (w : World) (ht : Tab w g T) (h0 : Al.vB x.toNat = true) (h1 : Al.vB y.toNat = true) :
    Calls Try.prog 28 #[v, .slice (some ⟨g, 0, none⟩) 144 144, .string (bs [x, 61, y, 59])] w fun e w' => e = .returned (.bool (allowsP A T (1, x, y, 0, 0))) ∧ Below w.heap.size w w' := by
  have s0 := ix [x, 61, y, 59] 0 0 x.toNat rfl rfl
  have s1 := ix [x, 61, y, 59] 1 1 61 rfl rfl
  have s2 := ix [x, 61, y, 59] 2 2 y.toNat rfl rfl
  have hz : (bs [x, 61, y, 59]).size = 4 := rfl
  have hyb := v_bd h1
  have hfy : ((y.toNat : Int) == 64) = false := beq_eq_false_iff_ne.2 (by omega)
  have HAP : Hid (allowsP A T (1, x, y, 0, 0) = insideP (setOf T (Al.vi y)) (setOf T (Al.vi x))) := rfl
  have lx := vi_lt h0
  have ly := vi_lt h1
  have HV := hid (fun wx => Var_ok x wx h0)
  have HVY := hid (fun wx => Var_ok y wx h1)
  have HS := hid (fun wx (h : Tab wx g T) => Set_any g T (Al.vi x) wx h lx)
  have HSY := hid (fun wx (h : Tab wx g T) => Set_any g T (Al.vi y) wx h ly)
  have hl := setOf_len T (Al.vi x)
  have hly := setOf_len T (Al.vi y)
  have HI := hid (fun wx => inside_any (setOf T (Al.vi y)) (setOf T (Al.vi x)) wx (by omega) (by omega))
  have HT := hid ht
  generalize setOf T (Al.vi x) = X at *
  generalize setOf T (Al.vi y) = Y at *
  generalize Al.vi x = N at *
  generalize Al.vi y = M at *
  clear hl hly h0 h1 ht hyb
  go_enter Try.func28, Try.ntmps28
  go_wp2_with fail
  refine (HV.out _).mono ?_
  rintro e w0 ⟨rfl, rfl⟩
  go_wp2_with fail
  refine (HS.out _ HT.out).mono ?_
  rintro e w1 ⟨rfl, hb1⟩
  go_wp2_with fail
  refine (HVY.out _).mono ?_
  rintro e w2 ⟨rfl, rfl⟩
  go_wp2_with fail
  refine (HSY.out _ (HT.out.below hb1)).mono ?_
  rintro e w3 ⟨rfl, hb3⟩
  go_wp2_with (go_at_call 32; refine (HI.out _).mono ?_; rintro e w' ⟨rfl, rfl⟩)
  go_ret
  exact ⟨by rw [HAP.out]; rfl, hb1.trans (hb3.mono hb1.size)⟩
set_option maxRecDepth 100000 in
set_option maxHeartbeats 2000000 in
theorem allows_load (A : List Al.St) (x y sf : UInt8) (gl cap g : Nat) (T : Al.Tb) (w : World) (hA : ∀ s ∈ A, Al.Wf s) (hcap : A.length ≤ 24) (ht : Tab w g T) (h0 : Al.vB x.toNat = true) (h1 : Al.vB y.toNat = true)
    (hgl : gl < w.heap.size) (hc : ∀ k (h : k < A.length), w.cell? ⟨gl, k, none⟩ = some (.string (bs (Al.txt A[k])))) :
    Calls Try.prog 28 #[.slice (some ⟨gl, 0, none⟩) A.length cap, .slice (some ⟨g, 0, none⟩) 144 144, .string (bs [x, 61, y, 46, sf, 59])] w fun e w' => e = .returned (.bool (allowsP A T (2, x, y, 0, sf))) ∧ Below w.heap.size w w' := by
  have s0 := ix [x, 61, y, 46, sf, 59] 0 0 x.toNat rfl rfl
  have s1 := ix [x, 61, y, 46, sf, 59] 1 1 61 rfl rfl
  have s2 := ix [x, 61, y, 46, sf, 59] 2 2 y.toNat rfl rfl
  have s4 := ix [x, 61, y, 46, sf, 59] 4 4 sf.toNat rfl rfl
  have hz : (bs [x, 61, y, 46, sf, 59]).size = 6 := rfl
  have hyb := v_bd h1
  have hfy : ((y.toNat : Int) == 64) = false := beq_eq_false_iff_ne.2 (by omega)
  have HAP : Hid (allowsP A T (2, x, y, 0, sf) = A.all (loadAll T x y sf)) := rfl
  have lx := vi_lt h0
  have ly := vi_lt h1
  have HV := hid (fun wx => Var_ok x wx h0)
  have HVY := hid (fun wx => Var_ok y wx h1)
  have HS := hid (fun wx (h : Tab wx g T) => Set_any g T (Al.vi x) wx h lx)
  have HSY := hid (fun wx (h : Tab wx g T) => Set_any g T (Al.vi y) wx h ly)
  have HSL := hid (fun v => setOf_len T v)
  have HT := hid ht
  have HC := hid hc
  have HA := hid hA
  have H1 := hid h1
  have hxl := setOf_len T (Al.vi x)
  obtain ⟨X, hX⟩ : ∃ X, setOf T (Al.vi x) = X := ⟨_, rfl⟩
  rw [hX] at HS hxl
  have HXE := hid hX
  clear h0 h1 ht hyb hA hc hX
  go_enter Try.func28, Try.ntmps28
  go_wp2_with fail
  refine (HV.out _).mono ?_
  rintro e w0 ⟨rfl, rfl⟩
  go_wp2_with fail
  refine (HS.out _ HT.out).mono ?_
  rintro e w1 ⟨rfl, hb1⟩
  go_wp2_with fail
  refine (HVY.out _).mono ?_
  rintro e w2 ⟨rfl, rfl⟩
  go_wp2_with fail
  refine (HSY.out _ (HT.out.below hb1)).mono ?_
  rintro e w3 ⟨rfl, hb3⟩
  have HB3 := hid (hb1.trans (hb3.mono hb1.size))
  clear hb1 hb3
  go_wp2_with fail
  go_loopw [9] (fun i wr => ∃ k : Nat, k ≤ A.length ∧ i = .int .i64 k ∧ (A.take k).all (loadAll T x y sf) = true ∧ Below w0.heap.size w0 wr) (fun i _ => A.length - (intOf i).toNat)
  case atStart => exact ⟨0, Nat.zero_le _, rfl, rfl, HB3.out⟩
  case round =>
    obtain ⟨k, hk, rfl, hok, hbel⟩ := hrel
    have HOK := hid hok
    clear hok
    by_cases hlt : k < A.length
    · have hcell := cell_below hbel (HC.out k hlt) hgl
      have HAS := hid (all_take_succ (loadAll T x y sf) hlt)
      have HAM := hid (fun h => all_miss (p := loadAll T x y sf) hlt h)
      have hwf := HA.out A[k] (List.getElem_mem hlt)
      generalize A[k] = p at *
      have HBL := hid hbel
      have HTR := hid (HT.out.below hbel)
      clear hbel
      rcases wf_cases hwf with ⟨px, o, rfl, q0, q1⟩ | ⟨px, py, rfl, q0, q1⟩ | ⟨px, py, pf, rfl, q0, q1, q2⟩ | ⟨px, py, pf, rfl, q0, q1, q2⟩
      · rw [txt0] at hcell
        have p1 := ix [px, 61, 64, o, 59] 1 1 61 rfl rfl
        have HR : Hid (loadAll T x y sf (0, px, 0, o, 0) = true) := rfl
        clear hwf q0 q1
        go_wp2_with fail
        go_quiet (fail)
        go_wp2_with fail
        go_roundw
        case rel => exact ⟨k + 1, by omega, by go_num, by rw [HAS.out, HOK.out, HR.out]; rfl, Below.drewN HBL.out _⟩
        case measure => simp [intOf]; omega
      · rw [txt1] at hcell
        have p1 := ix [px, 61, py, 59] 1 1 61 rfl rfl
        have HR : Hid (loadAll T x y sf (1, px, py, 0, 0) = true) := rfl
        clear hwf q0 q1
        go_wp2_with fail
        go_quiet (fail)
        go_wp2_with fail
        go_roundw
        case rel => exact ⟨k + 1, by omega, by go_num, by rw [HAS.out, HOK.out, HR.out]; rfl, Below.drewN HBL.out _⟩
        case measure => simp [intOf]; omega
      · rw [txt2] at hcell
        have p1 := ix [px, 61, py, 46, pf, 59] 1 1 61 rfl rfl
        have HR : Hid (loadAll T x y sf (2, px, py, 0, pf) = true) := rfl
        clear hwf q0 q1
        go_wp2_with fail
        go_quiet (fail)
        go_wp2_with fail
        go_roundw
        case rel => exact ⟨k + 1, by omega, by go_num, by rw [HAS.out, HOK.out, HR.out]; rfl, Below.drewN HBL.out _⟩
        case measure => simp [intOf]; omega
      · rw [txt3] at hcell
        have p0 := ix [px, 46, pf, 61, py, 59] 0 0 px.toNat rfl rfl
        have p1 := ix [px, 46, pf, 61, py, 59] 1 1 46 rfl rfl
        have p2 := ix [px, 46, pf, 61, py, 59] 2 2 pf.toNat rfl rfl
        have p4 := ix [px, 46, pf, 61, py, 59] 4 4 py.toNat rfl rfl
        by_cases hpe : pf = sf
        · subst hpe
          have HR : Hid (loadAll T x y pf (3, px, py, 0, pf) = (!Al.meetT T (Al.vi px) (Al.vi y) || insideP (setOf T (Al.vi py)) X)) := by
            unfold Hid loadAll
            rw [HXE.out]
            simp
          have lpx := vi_lt q0
          have lpy := vi_lt q1
          have l2 := HSL.out (Al.vi py)
          have HME := hid (fun wx (h : Tab wx g T) => Meet_any g T (Al.vi px) (Al.vi y) wx h lpx ly)
          have HSP := hid (fun wx (h : Tab wx g T) => Set_any g T (Al.vi py) wx h lpy)
          have HIN := hid (fun wx => inside_any (setOf T (Al.vi py)) X wx (by omega) (by omega))
          have gX := q0
          have gY := H1.out
          have HVP := hid (fun wx => Var_ok py wx q1)
          generalize setOf T (Al.vi py) = PY at *
          generalize Al.meetT T (Al.vi px) (Al.vi y) = mb at *
          generalize insideP PY X = ib at *
          clear hwf q0 q2 l2 q1
          go_wp2_with fail
          go_quiet (fail)
          go_wp2_with fail
          have hTq : Tab (wr.drewN nq) g T := HTR.out
          have hBq := Below.drewN HBL.out nq
          generalize wr.drewN nq = wq at *
          go_quiet ((first | (go_at_call 61; exact Calls.quiet_of_same (Var_ok _ _ (by assumption))) | (go_at_call 63; exact Calls.quiet_of_same (HME.out _ hTq))))
          have hTp : Tab (wq.drewN nq) g T := hTq
          have hBp := Below.drewN hBq nq
          generalize wq.drewN nq = wp at *
          have HTP := hid hTp
          have HBP := hid hBp
          clear hTq hBq hTp hBp hcell
          go_wp2_with fail
          refine (HVP.out _).mono ?_
          rintro e w5 ⟨rfl, rfl⟩
          go_wp2_with fail
          refine (HSP.out _ HTP.out).mono ?_
          rintro e w6 ⟨rfl, hb6⟩
          have hB6 := HBP.out.trans (hb6.mono HBP.out.size)
          clear hb6
          go_wp2_with fail
          refine (HIN.out _).mono ?_
          rintro e w7 ⟨rfl, rfl⟩
          rcases mb with _ | _
          · go_wp2_with fail
            go_roundw
            case rel => exact ⟨k + 1, by omega, by go_num, by rw [HAS.out, HOK.out, HR.out]; rfl, hB6⟩
            case measure => simp [intOf]; omega
          · rcases ib with _ | _
            · have HF : Hid (allowsP A T (2, x, y, 0, pf) = false) := by rw [Hid, HAP.out]; exact HAM.out (by rw [HR.out]; rfl)
              go_wp2_with fail
              go_ret
              exact ⟨by rw [HF.out]; rfl, hB6⟩
            · go_wp2_with fail
              go_roundw
              case rel => exact ⟨k + 1, by omega, by go_num, by rw [HAS.out, HOK.out, HR.out]; rfl, hB6⟩
              case measure => simp [intOf]; omega
        · have HR : Hid (loadAll T x y sf (3, px, py, 0, pf) = true) := by simp [Hid, loadAll, hpe]
          have hne : ((pf.toNat : Int) == (sf.toNat : Int)) = false := beq_eq_false_iff_ne.2 (fun h => hpe (UInt8.toNat_inj.1 (by omega)))
          clear hwf q0 q1 q2 hpe
          go_wp2_with fail
          go_quiet (fail)
          go_wp2_with fail
          go_roundw
          case rel => exact ⟨k + 1, by omega, by go_num, by rw [HAS.out, HOK.out, HR.out]; rfl, Below.drewN HBL.out _⟩
          case measure => simp [intOf]; omega
    · have HF : Hid (allowsP A T (2, x, y, 0, sf) = true) := by have := HOK.out; rw [List.take_of_length_le (by omega)] at this; rw [Hid, HAP.out]; exact this
      go_wp2
      go_ret
      exact ⟨by rw [HF.out]; rfl, hbel⟩
end Go.Proofs.Ytmjlcajcobbcgaa

namespace Go.Proofs.Ytmjlcajcobbcgaa
open Go.RowKit

theorem allows_any (A : List Al.St) (st : Al.St) (gl cap g : Nat) (T : Al.Tb) (w : World) (hA : ∀ s ∈ A, Al.Wf s) (hcap : A.length ≤ 24) (ht : Tab w g T) (hst : st ∈ A)
    (hgl : gl < w.heap.size) (hc : ∀ k (h : k < A.length), w.cell? ⟨gl, k, none⟩ = some (.string (bs (Al.txt A[k])))) :
    Calls Try.prog 28 #[.slice (some ⟨gl, 0, none⟩) A.length cap, .slice (some ⟨g, 0, none⟩) 144 144, .string (bs (Al.txt st))] w fun e w' => e = .returned (.bool (allowsP A T st)) ∧ Below w.heap.size w w' := by
  rcases wf_cases (hA st hst) with ⟨x, o, rfl, h0, h1⟩ | ⟨x, y, rfl, h0, h1⟩ | ⟨x, y, sf, rfl, h0, h1, h2⟩ | ⟨x, y, sf, rfl, h0, h1, h2⟩
  · rw [txt0]; exact allows_new A x o _ g T w ht h0
  · rw [txt1]; exact allows_copy A x y _ g T w ht h0 h1
  · rw [txt2]; exact allows_load A x y sf gl cap g T w hA hcap ht h0 h1 hgl hc
  · rw [txt3]; exact allows_store A x y sf _ g T w

set_option maxRecDepth 100000 in
set_option maxHeartbeats 4000000 in
theorem LeastL_scr (g off len cap : Nat) (KD W : Nat → Int) (S T U : Nat → ByteArray) (w : World) (hg : g < w.heap.size) (hlc : len ≤ cap) (hcm : cap ≤ 9223372036854775807) (hc : Scr w g off len KD W S T U) :
    Calls Try.prog 8 #[.slice (some ⟨g, off, none⟩) len cap] w fun e w' => e = .returned (.bool true) ∧ Below w.heap.size w w' := by
  have HM := hid (made_some g off len cap KD W S T U w hg hlc hcm hc)
  have HC := hid hc
  obtain ⟨hgo, hsm⟩ := play_ok KD S (cut len)
  have HL := hid (fun x wx (hgx : g < wx.heap.size) (hcx : Scr wx g off len KD W S T U) (hx : ASess wx x (playP KD S (cut len))) => list_some x g off len cap KD W S T U wx hgx hlc hcm hcx hx)
  generalize playP KD S (cut len) = A at *
  have HGO := hid hgo
  clear hc hgo hlc hcm
  go_enter Try.func8, Try.ntmps8
  go_wp2_with fail
  refine HM.out.mono ?_
  rintro e w1 ⟨x, rfl, hx1, hxs, hb1⟩
  have HL1 := hid (HL.out x w1 (Nat.lt_of_lt_of_le hg hb1.size) (HC.out.below hg hb1) hx1)
  have HX1 := hid hx1
  have HB1 := hid hb1
  clear hx1 hb1
  go_wp2_with fail
  refine HL1.out.mono ?_
  rintro e w2 ⟨v, rfl, hr2, hb2⟩
  have HX2 := hid (HX1.out.below hb2)
  have hB2 := HB1.out.trans (hb2.mono HB1.out.size)
  have HB2 := hid hB2
  have HC2 := hid (HC.out.below hg hB2)
  have hg2 : g < w2.heap.size := Nat.lt_of_lt_of_le hg hB2.size
  obtain ⟨ao, c, hve⟩ := rdS_len hr2
  rw [List.length_map] at hve
  have HR2 := hid hr2
  clear hr2 hb2 hB2
  subst hve
  go_wp2_with fail
  go_loopw [7] (fun i wr => ∃ k : Nat, k ≤ len ∧ i = .int .i64 k ∧ Below w2.heap.size w2 wr) (fun i _ => len - (intOf i).toNat)
  case atStart => exact ⟨0, Nat.zero_le _, rfl, Below.refl _ _⟩
  case round =>
    obtain ⟨k, hk, rfl, hbel⟩ := hrel
    by_cases hlt : k < len
    · by_cases hmax : (k : Int) < 1152921504606846976
      · obtain ⟨c0, c1, c2, c3, c4, _, hts, _⟩ := HC2.out k hlt
        have d3 := cell_below hbel c3 hg2
        obtain ⟨Tk, hTk⟩ : ∃ q, T k = q := ⟨_, rfl⟩
        rw [hTk] at d3 hts
        have htl : Tk.data.toList.length ≤ 9223372036854775807 := hts
        have hbi := fun wx => bits_any Tk.data.toList wx htl
        simp only [bs_back] at hbi
        have HBI := hid hbi
        have HBL := hid hbel
        clear hbi hbel c0 c1 c2 c3 c4 hTk hts htl
        go_wp2_with fail
        refine (HBI.out _).mono ?_
        rintro e w3 ⟨gt, rfl, hgt, htab, hb3⟩
        have hB3 := HBL.out.trans (hb3.mono HBL.out.size)
        have HB3 := hid hB3
        have HTB := hid htab
        have hs23 := hB3.size
        clear hb3 htab d3 hgt hB3
        go_wp2_with fail
        go_loopw [9, 10] (fun o i wr => ∃ j : Nat, j ≤ A.length ∧ i = .int .i64 j ∧ o = .bool ((A.take j).all (allowsP A (bitsP Tk.data.toList))) ∧ Below w3.heap.size w3 wr) (fun _ i _ => A.length - (intOf i).toNat)
        case atStart => exact ⟨0, Nat.zero_le _, rfl, rfl, Below.refl _ _⟩
        case round =>
          obtain ⟨j, hj, rfl, rfl, hbel⟩ := hrel
          by_cases hjl : j < A.length
          · rcases HR2.out.shape with ⟨_, hn⟩ | ⟨gl, cap2, he, _, _, hgl, hcl⟩
            · have : A = [] := by simpa using hn
              subst this; simp at hjl
            · simp only [Value.slice.injEq] at he
              obtain ⟨rfl, hlen, rfl⟩ := he
              clear hlen
              have hcl2 : ∀ q (h : q < A.length), w2.cell? ⟨gl, q, none⟩ = some (.string (bs (Al.txt A[q]))) := fun q h => by have := hcl q (by simpa using h); simpa using this
              have hB4 := HB3.out.trans (hbel.mono hs23)
              have hcj := cell_below hB4 (hcl2 j hjl) hgl
              have HOB := hid (allows_any A A[j] gl c gt (bitsP Tk.data.toList) wr HGO.out.1 hsm (HTB.out.below hbel) (List.getElem_mem hjl) (Nat.lt_of_lt_of_le hgl hB4.size) (fun q h => cell_below hB4 (hcl2 q h) hgl))
              have HAS := hid (all_take_succ (allowsP A (bitsP Tk.data.toList)) hjl)
              generalize A[j] = st at *
              generalize allowsP A (bitsP Tk.data.toList) st = ob at *
              generalize (A.take j).all (allowsP A (bitsP Tk.data.toList)) = o1 at *
              have HBL2 := hid hbel
              clear hcl hcl2 hbel hB4 hmax
              go_wp2_with fail
              refine HOB.out.mono ?_
              rintro e w5 ⟨rfl, hb5⟩
              have hB5 := HBL2.out.trans (hb5.mono HBL2.out.size)
              clear hb5 hcj
              rcases o1 with _ | _
              all_goals
                go_wp2_with fail
                go_roundw
                case rel => exact ⟨j + 1, by omega, by go_num, by rw [HAS.out]; simp, hB5⟩
                case measure => simp [intOf]; omega
          · rw [List.take_of_length_le (by omega)]
            cases hall : A.all (allowsP A (bitsP Tk.data.toList)) with
            | false =>
              have hd : decide ((j : Int) < (A.length : Int)) = false := decide_eq_false (by omega)
              have hB4 := HB3.out.trans (hbel.mono hs23)
              clear hbel hall
              go_wp2_with fail
              refine wp_loop_rounds 1 ?_
              rw [rounds_succ]
              go_wp2_with fail
              go_roundw
              case rel => (first | exact ⟨k + 1, by omega, by go_num, hB4⟩ | ((repeat apply Exists.intro); refine ⟨?_, rfl⟩; exact ⟨k + 1, by omega, by go_num, hB4⟩))
              case measure => simp [intOf]; omega
            | true =>
              have hd : decide ((j : Int) < (A.length : Int)) = false := decide_eq_false (by omega)
              have HWI := hid (least_within HGO.out.1 (fun s hs => List.all_eq_true.1 hall s hs))
              have hB4 := HB3.out.trans (hbel.mono hs23)
              have HT4 := hid (HTB.out.below hbel)
              have HB4 := hid hB4
              clear hall hbel hB4
              obtain ⟨W4, rfl⟩ : ∃ W4, W4 = wr := ⟨_, rfl⟩
              have hs4 := HB4.out.size
              go_wp2_with fail
              go_loopw [12] (fun i wr => ∃ q : Nat, q ≤ 12 ∧ i = .int .i64 q ∧ Below W4.heap.size W4 wr) (fun i _ => 12 - (intOf i).toNat)
              case atStart => exact ⟨0, Nat.zero_le _, rfl, Below.refl _ _⟩
              case round =>
                obtain ⟨q, hq, rfl, hbel⟩ := hrel
                have hB5 := HB4.out.trans (hbel.mono hs4)
                by_cases hql : q < 12
                · have hp3 := fun wx (h : ASess wx x A) => set_var x A q Al.allF wx hql h HGO.out hsm (by decide)
                  rw [bs_all6] at hp3
                  have hnm := fun wx (h : RdS wx (.slice ao A.length c) (A.map Al.txt)) => Named_any A (.slice ao A.length c) q wx h (by omega)
                  have HSE := hid (fun wx (h : Tab wx gt (bitsP Tk.data.toList)) => Set_any gt (bitsP Tk.data.toList) q wx h hql)
                  have hl2 := setOf_len (bitsP Tk.data.toList) q
                  have hl3 := setOf_len (Al.leastP A Al.allF) q
                  have hw1 : IntKind.i64.wrap (97 + (q : Int)) = 97 + (q : Int) := IntWalk.i64_in _ ⟨by omega, by omega⟩
                  have HB5 := hid hB5
                  have HTW := hid (HT4.out.below hbel)
                  have HBW := hid hbel
                  clear hbel hB5
                  cases hn : namedP A q with
                  | false =>
                    rw [points_var_no hql hn] at hp3
                    rw [hn] at hnm
                    have HP3 := hid hp3
                    have HNM := hid hnm
                    have hi0 := fun wx => inside_any [] (setOf (bitsP Tk.data.toList) q) wx (by decide) (by omega)
                    rw [show insideP [] (setOf (bitsP Tk.data.toList) q) = true from rfl] at hi0
                    have HI0 := hid hi0
                    generalize setOf (bitsP Tk.data.toList) q = Y at *
                    clear hn hp3 hnm hi0 hmax hl2 hl3
                    go_wp2_with fail
                    refine (HP3.out _ (HX2.out.below HB5.out)).mono ?_
                    rintro e w6 ⟨rfl, hb6⟩
                    have hB6 := HB5.out.trans (hb6.mono HB5.out.size)
                    have HT6 := hid (HTW.out.below hb6)
                    have HQ6 := hid hb6
                    clear hb6
                    go_wp2_with fail
                    refine (HNM.out _ (HR2.out.below hB6)).mono ?_
                    rintro e w7 ⟨rfl, rfl⟩
                    go_wp2_with fail
                    refine (HSE.out _ HT6.out).mono ?_
                    rintro e w8 ⟨rfl, hb8⟩
                    have HQ8 := hid hb8
                    clear hb8 hB6
                    go_wp2_with fail
                    refine (HI0.out _).mono ?_
                    rintro e w9 ⟨rfl, rfl⟩
                    have hBF := HBW.out.trans (HQ6.out.mono HBW.out.size)
                    have hBG := hBF.trans (HQ8.out.mono hBF.size)
                    clear hBF
                    go_wp2_with fail
                    go_roundw
                    case rel => exact ⟨q + 1, by omega, by go_num, hBG⟩
                    case measure => simp [intOf]; omega
                  | true =>
                    rw [points_var hql hn all_fields] at hp3
                    rw [hn] at hnm
                    have HP3 := hid hp3
                    have HNM := hid hnm
                    have hi0 := fun wx => inside_any (setOf (Al.leastP A Al.allF) q) (setOf (bitsP Tk.data.toList) q) wx (by omega) (by omega)
                    rw [HWI.out q] at hi0
                    have HI0 := hid hi0
                    generalize setOf (bitsP Tk.data.toList) q = Y at *
                    generalize setOf (Al.leastP A Al.allF) q = Z at *
                    clear hn hp3 hnm hi0 hmax hl2 hl3
                    go_wp2_with fail
                    refine (HP3.out _ (HX2.out.below HB5.out)).mono ?_
                    rintro e w6 ⟨rfl, hb6⟩
                    have hB6 := HB5.out.trans (hb6.mono HB5.out.size)
                    have HT6 := hid (HTW.out.below hb6)
                    have HQ6 := hid hb6
                    clear hb6
                    go_wp2_with fail
                    refine (HNM.out _ (HR2.out.below hB6)).mono ?_
                    rintro e w7 ⟨rfl, rfl⟩
                    go_wp2_with fail
                    refine (HSE.out _ HT6.out).mono ?_
                    rintro e w8 ⟨rfl, hb8⟩
                    have HQ8 := hid hb8
                    clear hb8 hB6
                    go_wp2_with fail
                    refine (HI0.out _).mono ?_
                    rintro e w9 ⟨rfl, rfl⟩
                    have hBF := HBW.out.trans (HQ6.out.mono HBW.out.size)
                    have hBG := hBF.trans (HQ8.out.mono hBF.size)
                    clear hBF
                    go_wp2_with fail
                    go_roundw
                    case rel => exact ⟨q + 1, by omega, by go_num, hBG⟩
                    case measure => simp [intOf]; omega
                · have hdq : decide ((q : Int) < 12) = false := decide_eq_false (by omega)
                  clear hbel
                  go_wp2_with fail
                  go_roundw
                  case rel => (first | exact ⟨k + 1, by omega, by go_num, hB5⟩ | ((repeat apply Exists.intro); refine ⟨?_, rfl⟩; exact ⟨k + 1, by omega, by go_num, hB5⟩))
                  case measure => simp [intOf]; omega
      · have hd2 : decide ((k : Int) < 1152921504606846976) = false := by simpa using hmax
        clear hmax
        go_wp2_with fail
        go_ret
        exact ⟨rfl, HB2.out.trans (hbel.mono HB2.out.size)⟩
    · have hd : decide ((k : Int) < (len : Int)) = false := by simp; omega
      go_wp2_with fail
      go_ret
      exact ⟨rfl, HB2.out.trans (hbel.mono HB2.out.size)⟩
theorem LeastL_some (g off len cap : Nat) (w : World) (hg : g < w.heap.size) (hlc : len ≤ cap) (hcm : cap ≤ 9223372036854775807)
    (hc : ∀ k, k < len → ∃ (kd W : Int) (s t u : ByteArray), w.cell? ⟨g, off + k * 5, none⟩ = some (.int .i64 kd) ∧ w.cell? ⟨g, off + k * 5 + 1, none⟩ = some (.int .i64 W) ∧ w.cell? ⟨g, off + k * 5 + 2, none⟩ = some (.string s) ∧ w.cell? ⟨g, off + k * 5 + 3, none⟩ = some (.string t) ∧ w.cell? ⟨g, off + k * 5 + 4, none⟩ = some (.string u) ∧ s.size ≤ maxLen ∧ t.size ≤ maxLen ∧ u.size ≤ maxLen) :
    Calls Try.prog 8 #[.slice (some ⟨g, off, none⟩) len cap] w fun e w' => e = .returned (.bool true) ∧ Below w.heap.size w w' := by
  obtain ⟨KD, W, S, T, U, h⟩ := scr_of hc
  exact LeastL_scr g off len cap KD W S T U w hg hlc hcm h
set_option maxRecDepth 100000 in
set_option maxHeartbeats 1000000 in
theorem LeastL_zero (ao : Option Addr) (cap : Nat) (w : World) :
    Calls Try.prog 8 #[.slice ao 0 cap] w fun e w' => e = .returned (.bool true) ∧ Below w.heap.size w w' := by
  have HM := hid (made_zero ao cap w)
  have HL := hid (fun x wx (hx : ASess wx x []) => list_zero x ao cap wx hx)
  go_enter Try.func8, Try.ntmps8
  go_wp2_with fail
  refine HM.out.mono ?_
  rintro e w1 ⟨x, rfl, hx1, hxs, hb1⟩
  go_wp2_with fail
  refine (HL.out x _ hx1).mono ?_
  rintro e w2 ⟨v, rfl, hr2, hb2⟩
  go_wp2_with fail
  refine wp_loop_rounds 1 ?_
  rw [rounds_succ]
  go_wp2_with fail
  go_ret
  exact ⟨rfl, hb1.trans (hb2.mono hb1.size)⟩
end Go.Proofs.Ytmjlcajcobbcgaa
