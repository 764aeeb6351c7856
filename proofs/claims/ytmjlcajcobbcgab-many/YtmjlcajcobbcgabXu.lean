import Derived.Test.YtmjlcajcobbcgabXe
namespace Go.Proofs.Ytmjlcajcobbcgab
open Go.RowKit

/-- Why's error, by the document. -/
def whyE (A : List Al.St) (l : List UInt8) : List UInt8 → Nat
  | [c] => if varN A l < 0 then 5 else if Al.oB c.toNat = true ∧ Al.leastP A Al.allF (varN A l).toNat (Al.si c) = true then 0 else 4
  | _ => if varN A l < 0 then 5 else 4
theorem whyE_one (A : List Al.St) (l : List UInt8) (c : UInt8) : whyE A l [c] = if varN A l < 0 then 5 else if Al.oB c.toNat = true ∧ Al.leastP A Al.allF (varN A l).toNat (Al.si c) = true then 0 else 4 := rfl
theorem whyE_len {A : List Al.St} {l o : List UInt8} (h : o.length ≠ 1) : whyE A l o = if varN A l < 0 then 5 else 4 := by
  match o with
  | [] => rfl
  | [_] => simp at h
  | _ :: _ :: _ => rfl
theorem whyE_neg {A : List Al.St} {l o : List UInt8} (h : varN A l < 0) : whyE A l o = 5 := by
  match o with
  | [] => exact if_pos h
  | [_] => exact if_pos h
  | _ :: _ :: _ => exact if_pos h

set_option maxRecDepth 100000 in
set_option maxHeartbeats 1000000 in
theorem rWhy_any (b : Nat) (A : List Al.St) (l o : List UInt8) (w : World) (hS : RSess w b A) (hA : Al.Good A) (hsm : A.length ≤ 24) :
    Calls Try.prog 81 #[.pointer (some ⟨b, 0, none⟩), .string (bs l), .string (bs o)] w fun e w' => e = .returned (.int .i64 (whyE A l o : Nat)) ∧ Below w.heap.size w w' := by
  obtain ⟨v, hv, hr⟩ := hS.ex
  have hcv := cell_of_one hv
  have HVA := hid (Variable_any A v l w hr (by omega))
  have hbd := varN_bd A l
  have hsz : (bs o).size = o.length := rfl
  by_cases hn : varN A l < 0
  · have HE := hid (whyE_neg (o := o) hn)
    generalize varN A l = n at *
    go_enter Try.func81, Try.ntmps81
    go_wp2_with (go_at_call 76; refine HVA.out.mono ?_; rintro e w' ⟨rfl, rfl⟩)
    go_ret
    exact ⟨by rw [HE.out]; rfl, Below.refl _ _⟩
  · by_cases h1 : o.length = 1
    · obtain ⟨c, rfl⟩ : ∃ c, o = [c] := by
        match o, h1 with
        | [c], _ => exact ⟨c, rfl⟩
      have hi := ix [c] 0 0 c.toNat rfl rfl
      have hs1 : (bs [c]).size = 1 := rfl
      have HE0 := whyE_one A l c
      rw [if_neg hn] at HE0
      clear hsz h1
      by_cases ho : Al.oB c.toNat = true
      · have HSO := hid (fun wx => Site_ok c wx ho)
        have lo := si_lt ho
        have HL2 := hid (fun wx (h : RdS wx v (A.map Al.txt)) => Least_ok A v Al.allF wx hA.1 h (by omega) (by decide))
        rw [bs_all] at HL2
        obtain ⟨N, hN0⟩ := Int.eq_ofNat_of_zero_le (show 0 ≤ varN A l by omega)
        rw [hN0, Int.toNat_natCast] at HE0
        rw [hN0] at HVA hbd
        have hN : N < 12 := by omega
        have HR := hid hr
        clear hN0 hn hbd hr hv hS
        obtain ⟨B, hB⟩ : ∃ B, Al.leastP A Al.allF N (Al.si c) = B := ⟨_, rfl⟩
        rw [hB] at HE0
        have HBB := hid hB
        have hdN : decide ((N : Int) < 0) = false := by simp
        have hds : decide ((Al.si c : Int) < 0) = false := by simp
        clear hB
        go_enter Try.func81, Try.ntmps81
        go_wp2_with (first | (go_at_call 76; refine HVA.out.mono ?_; rintro e w' ⟨rfl, rfl⟩) | (go_at_call 87; refine (HSO.out _).mono ?_; rintro e w' ⟨rfl, rfl⟩))
        refine (HL2.out _ HR.out).mono ?_
        rintro e w3 ⟨g, T, rfl, ht3, hT3, hb3⟩
        have hc3 := ht3.cell hN lo
        rw [hT3 N _ lo, HBB.out] at hc3
        generalize Al.si c = O at *
        clear ht3 hT3
        cases B with
        | true =>
          rw [if_pos ⟨ho, rfl⟩] at HE0
          have HE := hid HE0
          clear HE0
          go_wp2_with (go_at_call 87; refine (HSO.out _).mono ?_; rintro e w' ⟨rfl, rfl⟩)
          go_ret
          exact ⟨by rw [HE.out]; rfl, hb3⟩
        | false =>
          rw [if_neg (by simp)] at HE0
          have HE := hid HE0
          clear HE0
          go_wp2_with (go_at_call 87; refine (HSO.out _).mono ?_; rintro e w' ⟨rfl, rfl⟩)
          go_ret
          exact ⟨by rw [HE.out]; rfl, hb3⟩
      · have hneg := site_no ho
        have HS := hid (fun wx => Site_any (c.toNat : Nat) wx (by omega) (by have := c.toNat_lt; omega))
        rw [if_neg (fun h => ho h.1)] at HE0
        have HE := hid HE0
        have hdn : decide (varN A l < 0) = false := by simpa using hn
        clear HE0 ho
        generalize varN A l = n at *
        generalize siteI (c.toNat : Nat) = q at *
        go_enter Try.func81, Try.ntmps81
        go_wp2_with (first | (go_at_call 76; refine HVA.out.mono ?_; rintro e w' ⟨rfl, rfl⟩) | (go_at_call 87; refine (HS.out _).mono ?_; rintro e w' ⟨rfl, rfl⟩))
        go_ret
        exact ⟨by rw [HE.out]; rfl, Below.refl _ _⟩
    · have HE0 := whyE_len (A := A) (l := l) h1
      rw [if_neg hn] at HE0
      have HE := hid HE0
      have hb : ((o.length : Int) != 1) = true := by simp; omega
      have hdn : decide (varN A l < 0) = false := by simpa using hn
      clear HE0
      generalize varN A l = n at *
      go_enter Try.func81, Try.ntmps81
      go_wp2_with (go_at_call 76; refine HVA.out.mono ?_; rintro e w' ⟨rfl, rfl⟩)
      go_ret
      exact ⟨by rw [HE.out]; rfl, Below.refl _ _⟩
end Go.Proofs.Ytmjlcajcobbcgab

namespace Go.Proofs.Ytmjlcajcobbcgab
open Go.RowKit

/-- The slice v reads as the list F of places. -/
def iv (n : Nat) : Value := .int .i64 n
def RdI (w : World) (v : Value) (F : List Nat) : Prop := w.ownsRow 0 3 1 v F.length (F.map iv)
theorem RdI.shape {w : World} {v : Value} {F : List Nat} (h : RdI w v F) :
    (v = .slice none 0 0 ∧ F = []) ∨ ∃ g cap, v = .slice (some ⟨g, 0, none⟩) F.length cap ∧ F.length ≤ cap ∧ cap ≤ 9223372036854775807 ∧ g < w.heap.size ∧ ∀ k (h : k < F.length), w.cell? ⟨g, k, none⟩ = some (.int .i64 (F[k] : Nat)) := by
  rcases h.2 with ⟨rfl, hn⟩ | ⟨g, cap, cur, rfl, _, hg, hl, hm, hsz, htk⟩
  · exact .inl ⟨rfl, List.eq_nil_of_length_eq_zero hn⟩
  · refine .inr ⟨g, cap, rfl, hl, hm, (Array.getElem?_eq_some_iff.1 hg).1, fun k hk => ?_⟩
    have := h.cells (g := g) rfl k (iv F[k]) (by simp [hk])
    unfold iv at this
    have hadd : (⟨g, 0, none⟩ : Addr).add k = ⟨g, k, none⟩ := by unfold Addr.add; split <;> simp_all
    rwa [hadd] at this
theorem RdI.below {w w' : World} {v : Value} {F : List Nat} (h : RdI w v F) (hb : Below w.heap.size w w') : RdI w' v F := by
  refine ⟨h.1, ?_⟩
  rcases h.2 with hn | ⟨g, cap, cur, rfl, hg0, hg, rest⟩
  · exact .inl hn
  · exact .inr ⟨g, cap, cur, rfl, hg0, by rw [hb.block g (Array.getElem?_eq_some_iff.1 hg).1]; exact hg, rest⟩

/-- The step that begins at a place has the fact v, o. -/
def factAt (t : List UInt8) (v o : Nat) (f : Nat) : Bool := (t.getD f 0).toNat == v && (t.getD (f + 1) 0).toNat == o
def knownP (t : List UInt8) (F : List Nat) (v o : Nat) : Bool := F.any (factAt t v o)

set_option maxRecDepth 100000 in
set_option maxHeartbeats 1000000 in
theorem known_some (t : List UInt8) (F : List Nat) (v o : Nat) (g cap : Nat) (w : World) (hF : ∀ f ∈ F, f + 1 < t.length) (ht : t.length ≤ 1000000) (hc : ∀ k (h : k < F.length), w.cell? ⟨g, k, none⟩ = some (.int .i64 (F[k] : Nat))) (hl : F.length ≤ 1000000) :
    Calls Try.prog 74 #[.string (bs t), .slice (some ⟨g, 0, none⟩) F.length cap, .int .u8 v, .int .u8 o] w fun e w' => e = .returned (.bool (knownP t F v o)) ∧ w' = w := by
  have HC := hid hc
  have HF := hid hF
  clear hc hF
  have hsz : (bs t).size = t.length := rfl
  go_enter Try.func74, Try.ntmps74
  go_wp2_with fail
  go_loop [9] (fun i => ∃ k : Nat, k ≤ F.length ∧ i = .int .i64 k ∧ (F.take k).any (factAt t v o) = false) (fun i => F.length - (intOf i).toNat)
  case atStart => exact ⟨0, Nat.zero_le _, rfl, rfl⟩
  case round =>
    obtain ⟨k, hk, rfl, hh⟩ := hrel
    have HH := hid hh
    clear hh
    by_cases hlt : k < F.length
    · have hcell := HC.out k hlt
      have hf := HF.out F[k] (List.getElem_mem hlt)
      have HS := hid (any_take (factAt t v o) hlt)
      have HAH : Hid (factAt t v o F[k] = true → knownP t F v o = true) := fun h => any_hit hlt h
      generalize F[k] = f at *
      have hi := ix t f f (t[f].toNat : Nat) rfl (by rw [List.getElem?_eq_getElem (by omega)]; rfl)
      have hi1 := ix t (f + 1) ((f : Int) + 1) (t[f + 1].toNat : Nat) (by omega) (by rw [List.getElem?_eq_getElem (by omega)]; rfl)
      have hfa : factAt t v o f = (t[f].toNat == v && t[f + 1].toNat == o) := by
        unfold factAt; simp only [List.getD_eq_getElem?_getD, List.getElem?_eq_getElem (show f < t.length by omega), List.getElem?_eq_getElem hf, Option.getD_some]
      generalize t[f].toNat = x at *
      generalize t[f + 1].toNat = y at *
      by_cases e1 : x = v
      · subst e1
        by_cases e2 : y = o
        · subst e2
          have HT := hid (HAH.out (by rw [hfa]; simp))
          clear hfa
          go_wp2_with fail
          go_ret
          exact ⟨by rw [HT.out]; rfl, rfl⟩
        · have HE : Hid (factAt t x o f = false) := by rw [Hid, hfa]; simp [e2]
          have hb : ((y : Int) == (o : Int)) = false := by simp; omega
          clear hfa
          go_wp2_with fail
          go_round
          case rel => exact ⟨k + 1, by omega, by go_num, by rw [HS.out, HH.out, HE.out]; rfl⟩
          case measure => simp [intOf]; omega
      · have HE : Hid (factAt t v o f = false) := by rw [Hid, hfa]; simp [e1]
        have hb : ((x : Int) == (v : Int)) = false := by simp; omega
        clear hfa
        go_wp2_with fail
        go_round
        case rel => exact ⟨k + 1, by omega, by go_num, by rw [HS.out, HH.out, HE.out]; rfl⟩
        case measure => simp [intOf]; omega
    · go_wp2
      go_ret
      exact ⟨by have := HH.out; rw [List.take_of_length_le (by omega)] at this; rw [show knownP t F v o = false from this]; rfl, rfl⟩

set_option maxHeartbeats 400000 in
theorem known_nil (t : List UInt8) (v o : Nat) (w : World) :
    Calls Try.prog 74 #[.string (bs t), .slice none 0 0, .int .u8 v, .int .u8 o] w fun e w' => e = .returned (.bool (knownP t [] v o)) ∧ w' = w := by
  go_enter Try.func74, Try.ntmps74
  go_wp2
  refine wp_loop_rounds 1 ?_
  rw [rounds_succ]
  go_wp2
  go_ret
  exact ⟨rfl, rfl⟩
theorem known_any (t : List UInt8) (F : List Nat) (v o : Nat) (x : Value) (w : World) (hr : RdI w x F) (hF : ∀ f ∈ F, f + 1 < t.length) (ht : t.length ≤ 1000000) (hl : F.length ≤ 1000000) :
    Calls Try.prog 74 #[.string (bs t), x, .int .u8 v, .int .u8 o] w fun e w' => e = .returned (.bool (knownP t F v o)) ∧ w' = w := by
  rcases hr.shape with ⟨rfl, rfl⟩ | ⟨g, cap, rfl, hl', hm, _, hc⟩
  · exact known_nil t v o w
  · exact known_some t F v o g cap w hF ht hc hl
end Go.Proofs.Ytmjlcajcobbcgab

namespace Go.Proofs.Ytmjlcajcobbcgab
open Go.RowKit

theorem drop_getR {t u : List UInt8} {i j : Nat} {c : UInt8} (h : t.drop i = u) (hc : u[j]? = some c) : t[i + j]? = some c := by rw [← h, List.getElem?_drop] at hc; exact hc
theorem drop_bt {t u : List UInt8} {i j : Nat} {c : UInt8} (h : t.drop i = u) (hc : u[j]? = some c) : Al.bt t (i + j) = c.toNat := by
  rw [Al.bt, List.getD_eq_getElem?_getD, drop_getR h hc]; rfl
theorem at_is (t u : List UInt8) (i j : Nat) (n : Int) (c : UInt8) (h : t.drop i = u) (hn : n = (i : Int) + j) (hc : u[j]? = some c) (w : World) :
    Calls Try.prog 86 #[.string (bs t), .int .i64 n] w fun e w' => e = .returned (.int .u8 (c.toNat : Nat)) ∧ w' = w := by
  subst hn
  refine (at_any (bs t) _ w (by omega)).mono ?_
  rintro e w' ⟨rfl, rfl⟩
  exact ⟨ret_int (by rw [btI_add, bs_data, drop_bt h hc]), rfl⟩
theorem stmt_at {t u : List UInt8} {i : Nat} {s : Al.St} (hs : Al.Wf s) (h : t.drop i = Al.txt s ++ u) : Al.refStmt t i = (i + (Al.txt s).length, true) := by
  have b : ∀ j c, (Al.txt s ++ u)[j]? = some c → Al.bt t (i + j) = c.toNat := fun j c hc => drop_bt h hc
  rcases wf_cases hs with ⟨x, o, rfl, h0, h1⟩ | ⟨x, y, rfl, h0, h1⟩ | ⟨x, y, f, rfl, h0, h1, h2⟩ | ⟨x, y, f, rfl, h0, h1, h2⟩
  · rw [txt0] at *
    have b0 := b 0 x rfl; have b1 := b 1 61 rfl; have b2 := b 2 64 rfl; have b3 := b 3 o rfl; have b4 := b 4 59 rfl
    simp only [Nat.add_zero] at b0
    simp [Al.refStmt, b0, b1, b2, b3, b4, h0, h1]
  · rw [txt1] at *
    have b0 := b 0 x rfl; have b1 := b 1 61 rfl; have b2 := b 2 y rfl; have b3 := b 3 59 rfl
    simp only [Nat.add_zero] at b0
    have hy : y.toNat ≠ 64 := by have := v_bd h1; omega
    simp [Al.refStmt, b0, b1, b2, b3, h0, h1, hy]
  · rw [txt2] at *
    have b0 := b 0 x rfl; have b1 := b 1 61 rfl; have b2 := b 2 y rfl; have b3 := b 3 46 rfl; have b4 := b 4 f rfl; have b5 := b 5 59 rfl
    simp only [Nat.add_zero] at b0
    have hy : y.toNat ≠ 64 := by have := v_bd h1; omega
    simp [Al.refStmt, b0, b1, b2, b3, b4, b5, h0, h1, h2, hy]
  · rw [txt3] at *
    have b0 := b 0 x rfl; have b1 := b 1 46 rfl; have b2 := b 2 f rfl; have b3 := b 3 61 rfl; have b4 := b 4 y rfl; have b5 := b 5 59 rfl
    simp only [Nat.add_zero] at b0
    simp [Al.refStmt, b0, b1, b2, b3, b4, b5, h0, h1, h2]
theorem Stmt_is (t u : List UInt8) (i : Nat) (n m : Int) (s : Al.St) (hs : Al.Wf s) (h : t.drop i = Al.txt s ++ u) (hn : n = i) (hm : m = (i : Int) + (Al.txt s).length) (hi : i ≤ 1000000) (w : World) :
    Calls Try.prog 59 #[.string (bs t), .int .i64 n] w fun e w' => e = .returned (.tuple #[.int .i64 m, .bool true]) ∧ w' = w := by
  subst hn hm
  refine (Stmt_any (bs t) i w (by omega)).mono ?_
  rintro e w' ⟨rfl, rfl⟩
  rw [bs_data, stmt_at hs h]
  exact ⟨by simp, rfl⟩
theorem cut_at {t u : List UInt8} {i : Nat} {s : List UInt8} (h : t.drop i = s ++ u) (j : Nat) (hj : j = i + s.length) : (bs t).extract i j = bs s := by
  subst hj
  rw [extract_bs, bs_data, h, show i + s.length - i = s.length by omega, List.take_left']
  rfl
theorem has_mem {A : List Al.St} {s : Al.St} (h : s ∈ A) : Al.has (A.map Al.txt) (Al.txt s) = true := (Al.has_iff _ _).2 (List.mem_map_of_mem h)

set_option maxRecDepth 100000 in
set_option maxHeartbeats 2000000 in
theorem step_new (A : List Al.St) (t u : List UInt8) (i : Nat) (vA vF : Value) (x o : UInt8) (w : World) (hr : RdS w vA (A.map Al.txt)) (hA : Al.Good A) (ht : t.length ≤ 1000000)
    (hs : (0, x, 0, o, 0) ∈ A) (h : t.drop i = x :: o :: 60 :: (Al.txt (0, x, 0, o, 0) ++ u)) :
    Calls Try.prog 73 #[vA, .string (bs t), .int .i64 i, vF] w fun e w' => e = .returned (.int .i64 ((i + 8 : Nat) : Int)) ∧ ∃ n, w' = w.drewN n := by
  have hwf := hA.1 _ hs
  have hx : Al.vB x.toNat = true := hwf.1
  have ho : Al.oB o.toNat = true := by rcases wf_cases hwf with ⟨_, _, e, _, e1⟩ | ⟨_, _, e, _⟩ | ⟨_, _, _, e, _⟩ | ⟨_, _, _, e, _⟩ <;> simp only [Prod.mk.injEq] at e
                                                  <;> first | (obtain ⟨_, _, _, rfl, _⟩ := e; exact e1) | (exact absurd e.1 (by decide))
  have h3 : t.drop (i + 3) = Al.txt (0, x, 0, o, 0) ++ u := by rw [← List.drop_drop, h]; rfl
  have hlen : i + 8 ≤ t.length := by
    have := congrArg List.length h
    simp [txt0] at this; omega
  have f0 : 0 ≤ varI (btI (bs t) i) := by rw [show btI (bs t) i = (x.toNat : Nat) from by rw [btI_nat, bs_data]; exact congrArg _ (drop_bt h (j := 0) rfl)]; exact var_yes hx
  have f1 : 0 ≤ siteI (btI (bs t) ((i : Int) + 1)) := by rw [show btI (bs t) ((i : Int) + 1) = (o.toNat : Nat) from by rw [show ((i : Int) + 1) = (i : Int) + ((1 : Nat) : Int) from rfl, btI_add, bs_data]; exact congrArg _ (drop_bt h (j := 1) rfl)]; exact site_yes ho
  have f2 : btI (bs t) ((i : Int) + 2) = 60 := by rw [show ((i : Int) + 2) = (i : Int) + ((2 : Nat) : Int) from rfl, btI_add, bs_data, drop_bt h (j := 2) rfl]; rfl
  have HST := hid (Stmt_is t u (i + 3) ((i : Int) + 3) ((i : Int) + 8) _ hwf h3 (by simp) (by rw [txt0]; simp; omega) (by omega))
  have HH := hid (Has_any _ (Al.txt (0, x, 0, o, 0)) vA w hr)
  rw [has_mem hs] at HH
  have HIS0 := fun wx => isStore_any _ wx hwf
  have HIN0 := fun wx => isNew_any _ wx hwf
  simp only [show ((0 : Nat) == 3) = false from rfl] at HIS0
  simp only [show ((0 : Nat) == 0) = true from rfl] at HIN0
  have HIS := hid HIS0
  have HIN := hid HIN0
  clear HIS0 HIN0
  have hcut := cut_at h3 (i + 8) (by rw [txt0]; simp)
  have i0 := ix t i i (x.toNat : Nat) rfl (by rw [show i = i + 0 from rfl, drop_getR h (j := 0) rfl]; rfl)
  have i1 := ix t (i + 1) ((i : Int) + 1) (o.toNat : Nat) (by simp) (by rw [drop_getR h (j := 1) rfl]; rfl)
  have s0 := ix (Al.txt (0, x, 0, o, 0)) 0 0 (x.toNat : Nat) rfl rfl
  have s3 := ix (Al.txt (0, x, 0, o, 0)) 3 3 (o.toNat : Nat) rfl rfl
  have hsz : (bs t).size = t.length := rfl
  clear h h3 hr hA hs hwf hx ho
  generalize hS : Al.txt (0, x, 0, o, 0) = S at *
  have hsl : (bs S).size = 5 := by rw [← hS]; rfl
  clear hS
  have hxx : (((x.toNat : Nat) : Int) != ((x.toNat : Nat) : Int)) = false := by simp
  have hoo : (((o.toNat : Nat) : Int) != ((o.toNat : Nat) : Int)) = false := by simp
  generalize ((x.toNat : Nat) : Int) = X at *
  generalize ((o.toNat : Nat) : Int) = O at *
  generalize bs t = tb at *
  generalize bs S = sb at *
  go_enter Try.func73, Try.ntmps73
  go_wp2_with (first | (go_at_call 86; refine (at_any _ _ _ (by omega)).mono ?_; rintro e w' ⟨rfl, rfl⟩) | (go_at_call 40; refine (Var_any _ _ (btI_ge _ _) (btI_le _ _)).mono ?_; rintro e w' ⟨rfl, rfl⟩) | (go_at_call 87; refine (Site_any _ _ (btI_ge _ _) (btI_le _ _)).mono ?_; rintro e w' ⟨rfl, rfl⟩) | fail)
  refine (HST.out _).mono ?_
  rintro e w1 ⟨rfl, rfl⟩
  clear f0 f1 f2 HST
  go_wp2_with (go_at_call 62; refine HH.out.mono ?_; rintro e w' ⟨rfl, rfl⟩)
  clear HH
  go_quiet ((go_at_call 92; exact Calls.quiet_of_same (HIS.out _)))
  have HD : Hid (∃ n, w'.drewN nq = w'.drewN n) := ⟨_, rfl⟩
  generalize hw2 : w'.drewN nq = w2 at HD ⊢
  clear hw2
  go_wp2_with (go_at_call 93; refine (HIN.out _).mono ?_; rintro e w' ⟨rfl, rfl⟩)
  have hw1 : IntKind.i64.wrap ((i : Int) + 1) = (i : Int) + 1 := IntWalk.i64_in _ ⟨by omega, by omega⟩
  go_quiet (fail)
  go_wp2_with fail
  go_ret
  exact ⟨ret_int (by omega), by obtain ⟨n, hn⟩ := HD.out; exact drew_more (n := n) hn _⟩

set_option maxRecDepth 100000 in
set_option maxHeartbeats 2000000 in
theorem step_copy (A : List Al.St) (t u : List UInt8) (i : Nat) (vA vF : Value) (F : List Nat) (x y o : UInt8) (w : World) (hr : RdS w vA (A.map Al.txt)) (hf : RdI w vF F) (hFt : ∀ f ∈ F, f + 1 < t.length) (hFl : F.length ≤ 1000000) (hA : Al.Good A) (ht : t.length ≤ 1000000)
    (hs : (1, x, y, 0, 0) ∈ A) (ho : Al.oB o.toNat = true) (h : t.drop i = x :: o :: 60 :: (Al.txt (1, x, y, 0, 0) ++ u)) (hk : knownP t F y.toNat o.toNat = true) :
    Calls Try.prog 73 #[vA, .string (bs t), .int .i64 i, vF] w fun e w' => e = .returned (.int .i64 ((i + 7 : Nat) : Int)) ∧ ∃ n, w' = w.drewN n := by
  have hwf := hA.1 _ hs
  have hx : Al.vB x.toNat = true := hwf.1
  have h3 : t.drop (i + 3) = Al.txt (1, x, y, 0, 0) ++ u := by rw [← List.drop_drop, h]; rfl
  have hlen : i + 7 ≤ t.length := by
    have := congrArg List.length h
    simp [txt1] at this; omega
  have f0 : 0 ≤ varI (btI (bs t) i) := by rw [show btI (bs t) i = (x.toNat : Nat) from by rw [btI_nat, bs_data]; exact congrArg _ (drop_bt h (j := 0) rfl)]; exact var_yes hx
  have f1 : 0 ≤ siteI (btI (bs t) ((i : Int) + 1)) := by rw [show btI (bs t) ((i : Int) + 1) = (o.toNat : Nat) from by rw [show ((i : Int) + 1) = (i : Int) + ((1 : Nat) : Int) from rfl, btI_add, bs_data]; exact congrArg _ (drop_bt h (j := 1) rfl)]; exact site_yes ho
  have f2 : btI (bs t) ((i : Int) + 2) = 60 := by rw [show ((i : Int) + 2) = (i : Int) + ((2 : Nat) : Int) from rfl, btI_add, bs_data, drop_bt h (j := 2) rfl]; rfl
  have HST := hid (Stmt_is t u (i + 3) ((i : Int) + 3) ((i : Int) + 7) _ hwf h3 (by simp) (by rw [txt1]; simp; omega) (by omega))
  have HH := hid (Has_any _ (Al.txt (1, x, y, 0, 0)) vA w hr)
  rw [has_mem hs] at HH
  have HIS0 := fun wx => isStore_any _ wx hwf
  have HIN0 := fun wx => isNew_any _ wx hwf
  have HIC0 := fun wx => isCopy_any _ wx hwf
  simp only [show ((1 : Nat) == 3) = false from rfl] at HIS0
  simp only [show ((1 : Nat) == 0) = false from rfl] at HIN0
  simp only [show ((1 : Nat) == 1) = true from rfl] at HIC0
  have HK0 := fun wx (hq : RdI wx vF F) => known_any t F y.toNat o.toNat vF wx hq hFt ht hFl
  simp only [hk] at HK0
  have HK := hid HK0
  have HIS := hid HIS0
  have HIN := hid HIN0
  have HIC := hid HIC0
  have HRF := hid hf
  clear HIS0 HIN0 HIC0 HK0 hk hf hFt hFl
  have hcut := cut_at h3 (i + 7) (by rw [txt1]; simp)
  have i0 := ix t i i (x.toNat : Nat) rfl (by rw [show i = i + 0 from rfl, drop_getR h (j := 0) rfl]; rfl)
  have i1 := ix t (i + 1) ((i : Int) + 1) (o.toNat : Nat) (by simp) (by rw [drop_getR h (j := 1) rfl]; rfl)
  have s0 := ix (Al.txt (1, x, y, 0, 0)) 0 0 (x.toNat : Nat) rfl rfl
  have s2 := ix (Al.txt (1, x, y, 0, 0)) 2 2 (y.toNat : Nat) rfl rfl
  have hsz : (bs t).size = t.length := rfl
  clear h h3 hr hA hs hwf hx ho
  generalize hS : Al.txt (1, x, y, 0, 0) = S at *
  have hsl : (bs S).size = 4 := by rw [← hS]; rfl
  clear hS
  have hxx : (((x.toNat : Nat) : Int) != ((x.toNat : Nat) : Int)) = false := by simp
  generalize ((x.toNat : Nat) : Int) = X at *
  generalize ((y.toNat : Nat) : Int) = Y at *
  generalize ((o.toNat : Nat) : Int) = O at *
  generalize bs t = tb at *
  generalize bs S = sb at *
  have hw1 : IntKind.i64.wrap ((i : Int) + 1) = (i : Int) + 1 := IntWalk.i64_in _ ⟨by omega, by omega⟩
  go_enter Try.func73, Try.ntmps73
  go_wp2_with (first | (go_at_call 86; refine (at_any _ _ _ (by omega)).mono ?_; rintro e w' ⟨rfl, rfl⟩) | (go_at_call 40; refine (Var_any _ _ (btI_ge _ _) (btI_le _ _)).mono ?_; rintro e w' ⟨rfl, rfl⟩) | (go_at_call 87; refine (Site_any _ _ (btI_ge _ _) (btI_le _ _)).mono ?_; rintro e w' ⟨rfl, rfl⟩) | fail)
  refine (HST.out _).mono ?_
  rintro e w1 ⟨rfl, rfl⟩
  clear f0 f1 f2 HST
  go_wp2_with (go_at_call 62; refine HH.out.mono ?_; rintro e w' ⟨rfl, rfl⟩)
  clear HH
  go_quiet ((go_at_call 92; exact Calls.quiet_of_same (HIS.out _)))
  have HD : Hid (∃ n, w'.drewN nq = w'.drewN n) := ⟨_, rfl⟩
  have HRD : Hid (RdI (w'.drewN nq) vF F) := HRF.out
  generalize hw2 : w'.drewN nq = w2 at HD HRD ⊢
  clear hw2
  go_wp2_with (first | (go_at_call 93; refine (HIN.out _).mono ?_; rintro e w' ⟨rfl, rfl⟩) | (go_at_call 94; refine (HIC.out _).mono ?_; rintro e w' ⟨rfl, rfl⟩))
  go_quiet ((go_at_call 74; exact Calls.quiet_of_same (HK.out _ HRD.out)))
  go_wp2_with fail
  go_ret
  exact ⟨ret_int (by omega), by obtain ⟨n, hn⟩ := HD.out; exact drew_more (n := n) hn _⟩
end Go.Proofs.Ytmjlcajcobbcgab

namespace Go.Proofs.Ytmjlcajcobbcgab
open Go.RowKit

set_option maxRecDepth 100000 in
set_option maxHeartbeats 4000000 in
theorem step_load (A : List Al.St) (t r : List UInt8) (i : Nat) (vA vF : Value) (F : List Nat) (x y f z u o q : UInt8) (w : World) (hr : RdS w vA (A.map Al.txt)) (hf : RdI w vF F) (hFt : ∀ f ∈ F, f + 1 < t.length) (hFl : F.length ≤ 1000000) (hA : Al.Good A) (ht : t.length ≤ 1000000)
    (hs : (2, x, y, 0, f) ∈ A) (hp : (3, z, u, 0, f) ∈ A) (ho : Al.oB o.toNat = true) (hq : Al.oB q.toNat = true) (h : t.drop i = x :: o :: 60 :: (Al.txt (2, x, y, 0, f) ++ (Al.txt (3, z, u, 0, f) ++ q :: r)))
    (hk1 : knownP t F z.toNat q.toNat = true) (hk2 : knownP t F y.toNat q.toNat = true) (hk3 : knownP t F u.toNat o.toNat = true) :
    Calls Try.prog 73 #[vA, .string (bs t), .int .i64 i, vF] w fun e w' => e = .returned (.int .i64 ((i + 16 : Nat) : Int)) ∧ ∃ n, w' = w.drewN n := by
  have hwf := hA.1 _ hs
  have hwp := hA.1 _ hp
  have hx : Al.vB x.toNat = true := hwf.1
  have h3 : t.drop (i + 3) = Al.txt (2, x, y, 0, f) ++ (Al.txt (3, z, u, 0, f) ++ q :: r) := by rw [← List.drop_drop, h]; rfl
  have h9 : t.drop (i + 9) = Al.txt (3, z, u, 0, f) ++ q :: r := by rw [show i + 9 = i + 3 + 6 from rfl, ← List.drop_drop, h3, txt2]; rfl
  have hlen : i + 16 ≤ t.length := by
    have := congrArg List.length h
    simp [txt2, txt3] at this; omega
  have f0 : 0 ≤ varI (btI (bs t) i) := by rw [show btI (bs t) i = (x.toNat : Nat) from by rw [btI_nat, bs_data]; exact congrArg _ (drop_bt h (j := 0) rfl)]; exact var_yes hx
  have f1 : 0 ≤ siteI (btI (bs t) ((i : Int) + 1)) := by rw [show btI (bs t) ((i : Int) + 1) = (o.toNat : Nat) from by rw [show ((i : Int) + 1) = (i : Int) + ((1 : Nat) : Int) from rfl, btI_add, bs_data]; exact congrArg _ (drop_bt h (j := 1) rfl)]; exact site_yes ho
  have f2 : btI (bs t) ((i : Int) + 2) = 60 := by rw [show ((i : Int) + 2) = (i : Int) + ((2 : Nat) : Int) from rfl, btI_add, bs_data, drop_bt h (j := 2) rfl]; rfl
  have f15 : 0 ≤ siteI (btI (bs t) ((i : Int) + 15)) := by rw [show btI (bs t) ((i : Int) + 15) = (q.toNat : Nat) from by rw [show ((i : Int) + 15) = (i : Int) + ((15 : Nat) : Int) from rfl, btI_add, bs_data]; exact congrArg _ (drop_bt h (j := 15) rfl)]; exact site_yes hq
  have HST := hid (Stmt_is t _ (i + 3) ((i : Int) + 3) ((i : Int) + 9) _ hwf h3 (by simp) (by rw [txt2]; simp; omega) (by omega))
  have HST2 := hid (Stmt_is t _ (i + 9) ((i : Int) + 9) ((i : Int) + 15) _ hwp h9 (by simp) (by rw [txt3]; simp; omega) (by omega))
  have HH := hid (fun wx (h : RdS wx vA (A.map Al.txt)) => Has_any _ (Al.txt (2, x, y, 0, f)) vA wx h)
  have HHP := hid (fun wx (h : RdS wx vA (A.map Al.txt)) => Has_any _ (Al.txt (3, z, u, 0, f)) vA wx h)
  rw [has_mem hs] at HH
  rw [has_mem hp] at HHP
  have HIS0 := fun wx => isStore_any _ wx hwf
  have HIP0 := fun wx => isStore_any _ wx hwp
  have HIN0 := fun wx => isNew_any _ wx hwf
  have HIC0 := fun wx => isCopy_any _ wx hwf
  simp only [show ((2 : Nat) == 3) = false from rfl] at HIS0
  simp only [show ((3 : Nat) == 3) = true from rfl] at HIP0
  simp only [show ((2 : Nat) == 0) = false from rfl] at HIN0
  simp only [show ((2 : Nat) == 1) = false from rfl] at HIC0
  have HK10 := fun wx (hq : RdI wx vF F) => known_any t F z.toNat q.toNat vF wx hq hFt ht hFl
  have HK20 := fun wx (hq : RdI wx vF F) => known_any t F y.toNat q.toNat vF wx hq hFt ht hFl
  have HK30 := fun wx (hq : RdI wx vF F) => known_any t F u.toNat o.toNat vF wx hq hFt ht hFl
  simp only [hk1] at HK10
  simp only [hk2] at HK20
  simp only [hk3] at HK30
  have HK1 := hid HK10
  have HK2 := hid HK20
  have HK3 := hid HK30
  have HIS := hid HIS0
  have HIP := hid HIP0
  have HIN := hid HIN0
  have HIC := hid HIC0
  have HRF := hid hf
  have HRA := hid hr
  clear HIS0 HIN0 HIC0 HIP0 HK10 HK20 HK30 hk1 hk2 hk3 hf hFt hFl
  have hcut := cut_at h3 (i + 9) (by rw [txt2]; simp)
  have hcut2 := cut_at h9 (i + 15) (by rw [txt3]; simp)
  have i0 := ix t i i (x.toNat : Nat) rfl (by rw [show i = i + 0 from rfl, drop_getR h (j := 0) rfl]; rfl)
  have i1 := ix t (i + 1) ((i : Int) + 1) (o.toNat : Nat) (by simp) (by rw [drop_getR h (j := 1) rfl]; rfl)
  have i15 := ix t (i + 15) ((i : Int) + 15) (q.toNat : Nat) (by simp) (by rw [drop_getR h (j := 15) rfl]; rfl)
  have s0 := ix (Al.txt (2, x, y, 0, f)) 0 0 (x.toNat : Nat) rfl rfl
  have s2 := ix (Al.txt (2, x, y, 0, f)) 2 2 (y.toNat : Nat) rfl rfl
  have s4 := ix (Al.txt (2, x, y, 0, f)) 4 4 (f.toNat : Nat) rfl rfl
  have p0 := ix (Al.txt (3, z, u, 0, f)) 0 0 (z.toNat : Nat) rfl rfl
  have p2 := ix (Al.txt (3, z, u, 0, f)) 2 2 (f.toNat : Nat) rfl rfl
  have p4 := ix (Al.txt (3, z, u, 0, f)) 4 4 (u.toNat : Nat) rfl rfl
  have hsz : (bs t).size = t.length := rfl
  clear h h3 h9 hr hA hs hp hwf hwp hx ho hq
  generalize hS : Al.txt (2, x, y, 0, f) = S at *
  generalize hP : Al.txt (3, z, u, 0, f) = P at *
  have hsl : (bs S).size = 6 := by rw [← hS]; rfl
  have hpl : (bs P).size = 6 := by rw [← hP]; rfl
  clear hS hP
  have hxx : (((x.toNat : Nat) : Int) != ((x.toNat : Nat) : Int)) = false := by simp
  have hff : (((f.toNat : Nat) : Int) != ((f.toNat : Nat) : Int)) = false := by simp
  generalize ((x.toNat : Nat) : Int) = X at *
  generalize ((y.toNat : Nat) : Int) = Y at *
  generalize ((z.toNat : Nat) : Int) = Z at *
  generalize ((u.toNat : Nat) : Int) = U at *
  generalize ((f.toNat : Nat) : Int) = G at *
  generalize ((q.toNat : Nat) : Int) = Q at *
  generalize ((o.toNat : Nat) : Int) = O at *
  generalize bs t = tb at *
  generalize bs S = sb at *
  generalize bs P = pb at *
  have hw1 : IntKind.i64.wrap ((i : Int) + 1) = (i : Int) + 1 := IntWalk.i64_in _ ⟨by omega, by omega⟩
  have hw15 : decide (siteI (btI tb ((i : Int) + 15)) < 0) = false := by simp; omega
  go_enter Try.func73, Try.ntmps73
  go_wp2_with (first | (go_at_call 86; refine (at_any _ _ _ (by omega)).mono ?_; rintro e w' ⟨rfl, rfl⟩) | (go_at_call 40; refine (Var_any _ _ (btI_ge _ _) (btI_le _ _)).mono ?_; rintro e w' ⟨rfl, rfl⟩) | (go_at_call 87; refine (Site_any _ _ (btI_ge _ _) (btI_le _ _)).mono ?_; rintro e w' ⟨rfl, rfl⟩) | fail)
  refine (HST.out _).mono ?_
  rintro e w1 ⟨rfl, rfl⟩
  clear f0 f1 f2 HST
  go_wp2_with (go_at_call 62; refine (HH.out _ HRA.out).mono ?_; rintro e w' ⟨rfl, rfl⟩)
  clear HH
  go_quiet ((go_at_call 92; exact Calls.quiet_of_same (HIS.out _)))
  have HD : Hid (∃ n, w'.drewN nq = w'.drewN n) := ⟨_, rfl⟩
  have HRD : Hid (RdI (w'.drewN nq) vF F) := HRF.out
  have HRB : Hid (RdS (w'.drewN nq) vA (A.map Al.txt)) := HRA.out
  generalize hw2 : w'.drewN nq = w2 at HD HRD HRB ⊢
  clear hw2
  go_wp2_with (first | (go_at_call 93; refine (HIN.out _).mono ?_; rintro e w' ⟨rfl, rfl⟩) | (go_at_call 94; refine (HIC.out _).mono ?_; rintro e w' ⟨rfl, rfl⟩))
  refine (HST2.out _).mono ?_
  rintro e w1 ⟨rfl, rfl⟩
  go_wp2_with (go_at_call 62; refine (HHP.out _ HRB.out).mono ?_; rintro e w' ⟨rfl, rfl⟩)
  go_quiet ((first | (go_at_call 92; exact Calls.quiet_of_same (HIP.out _)) | (go_at_call 86; exact Calls.quiet_of_same (at_any _ _ _ (by omega))) | (go_at_call 87; exact Calls.quiet_of_same (Site_any _ _ (btI_ge _ _) (btI_le _ _)))))
  have HD3 := hid (HD.out.elim fun n hn => drew_more (n := n) hn nq)
  have HRD3 : Hid (RdI (w'.drewN nq) vF F) := HRD.out
  clear HD HRD
  generalize hwq : w'.drewN nq = w3 at HD3 HRD3 ⊢
  clear hwq
  clear HRB
  go_wp2_with fail
  go_quiet ((go_at_call 74; exact Calls.quiet_of_same (HK1.out _ HRD3.out)))
  have HD4 := hid (HD3.out.elim fun n hn => drew_more (n := n) hn nq)
  have HRD4 : Hid (RdI (w3.drewN nq) vF F) := HRD3.out
  clear HD3 HRD3
  generalize hwq : w3.drewN nq = w4 at HD4 HRD4 ⊢
  clear hwq
  go_wp2_with fail
  go_quiet ((go_at_call 74; exact Calls.quiet_of_same (HK2.out _ HRD4.out)))
  have HD5 := hid (HD4.out.elim fun n hn => drew_more (n := n) hn nq)
  have HRD5 : Hid (RdI (w4.drewN nq) vF F) := HRD4.out
  clear HD4 HRD4
  generalize hwq : w4.drewN nq = w5 at HD5 HRD5 ⊢
  clear hwq
  go_wp2_with fail
  go_quiet ((go_at_call 74; exact Calls.quiet_of_same (HK3.out _ HRD5.out)))
  have HD6 := hid (HD5.out.elim fun n hn => drew_more (n := n) hn nq)
  have HRD6 : Hid (RdI (w5.drewN nq) vF F) := HRD5.out
  clear HD5 HRD5
  generalize hwq : w5.drewN nq = w6 at HD6 HRD6 ⊢
  clear hwq
  go_wp2_with fail
  go_ret
  exact ⟨ret_int (by omega), HD6.out⟩
end Go.Proofs.Ytmjlcajcobbcgab

namespace Go.Proofs.Ytmjlcajcobbcgab
open Go.RowKit

theorem Try.info3 : (Try.prog.info? 3).map (fun i => (i.zero, i.size, i.bytes)) = some (some (.int .i64 0), 1, 8) := by kernel_rfl

/-- A step of a reason that stands at place i and ends at place j, the steps ahead beginning at the places F. -/
def StepAt (A : List Al.St) (t : List UInt8) (F : List Nat) (i j : Nat) : Prop :=
  (∃ x o u, (0, x, 0, o, 0) ∈ A ∧ t.drop i = x :: o :: 60 :: (Al.txt (0, x, 0, o, 0) ++ u) ∧ j = i + 8) ∨
  (∃ x y o u, (1, x, y, 0, 0) ∈ A ∧ Al.oB o.toNat = true ∧ t.drop i = x :: o :: 60 :: (Al.txt (1, x, y, 0, 0) ++ u) ∧ knownP t F y.toNat o.toNat = true ∧ j = i + 7) ∨
  (∃ x y f z u o q r, (2, x, y, 0, f) ∈ A ∧ (3, z, u, 0, f) ∈ A ∧ Al.oB o.toNat = true ∧ Al.oB q.toNat = true ∧ t.drop i = x :: o :: 60 :: (Al.txt (2, x, y, 0, f) ++ (Al.txt (3, z, u, 0, f) ++ q :: r)) ∧
    knownP t F z.toNat q.toNat = true ∧ knownP t F y.toNat q.toNat = true ∧ knownP t F u.toNat o.toNat = true ∧ j = i + 16)
theorem StepAt.bd {A : List Al.St} {t : List UInt8} {F : List Nat} {i j : Nat} (h : StepAt A t F i j) : i + 7 ≤ j ∧ j ≤ t.length := by
  rcases h with ⟨x, o, u, _, h, rfl⟩ | ⟨x, y, o, u, _, _, h, _, rfl⟩ | ⟨x, y, f, z, u, o, q, r, _, _, _, _, h, _, _, _, rfl⟩
  all_goals
    have := congrArg List.length h
    simp [txt0, txt1, txt2, txt3] at this
    omega
theorem step_ok {A : List Al.St} {t : List UInt8} {F : List Nat} {i j : Nat} {vA vF : Value} {w : World} (h : StepAt A t F i j) (hr : RdS w vA (A.map Al.txt)) (hf : RdI w vF F) (hFt : ∀ f ∈ F, f + 1 < t.length) (hFl : F.length ≤ 1000000) (hA : Al.Good A) (ht : t.length ≤ 1000000) :
    Calls Try.prog 73 #[vA, .string (bs t), .int .i64 i, vF] w fun e w' => e = .returned (.int .i64 (j : Nat)) ∧ ∃ n, w' = w.drewN n := by
  rcases h with ⟨x, o, u, a, h, rfl⟩ | ⟨x, y, o, u, a, b, h, c, rfl⟩ | ⟨x, y, f, z, u, o, q, r, a, a2, b, b2, h, c1, c2, c3, rfl⟩
  · exact step_new A t u i vA vF x o w hr hA ht a h
  · exact step_copy A t u i vA vF F x y o w hr hf hFt hFl hA ht a b h c
  · exact step_load A t r i vA vF F x y f z u o q w hr hf hFt hFl hA ht a a2 b b2 h c1 c2 c3

def places (Q : Nat → Nat) (k : Nat) : List Nat := (List.range k).map Q
theorem places_succ (Q : Nat → Nat) (k : Nat) : places Q (k + 1) = places Q k ++ [Q k] := by simp [places, List.range_succ]
theorem places_len (Q : Nat → Nat) (k : Nat) : (places Q k).length = k := by simp [places]
/-- The text is a reason for v, o: m + 1 steps, beginning at the places Q. -/
structure ReasonOf (A : List Al.St) (t : List UInt8) (v o m : Nat) (Q : Nat → Nat) : Prop where
  start : Q 0 = 0
  ends : Q (m + 1) = t.length
  step : ∀ k, k ≤ m → StepAt A t (places Q k) (Q k) (Q (k + 1))
  new : ∀ k, k ≤ m → knownP t (places Q k) (Al.bt t (Q k)) (Al.bt t (Q k + 1)) = false
  last : Al.bt t (Q m) = v ∧ Al.bt t (Q m + 1) = o
theorem ReasonOf.lt {A : List Al.St} {t : List UInt8} {v o m : Nat} {Q : Nat → Nat} (h : ReasonOf A t v o m Q) (k : Nat) (hk : k ≤ m) : Q k + 7 ≤ t.length := by
  have := (h.step k hk).bd; omega
theorem ReasonOf.count {A : List Al.St} {t : List UInt8} {v o m : Nat} {Q : Nat → Nat} (h : ReasonOf A t v o m Q) : ∀ k, k ≤ m + 1 → k ≤ Q k
  | 0, _ => Nat.zero_le _
  | k + 1, hk => by have := h.count k (by omega); have := (h.step k (by omega)).bd; omega
theorem bt_ix {t : List UInt8} {i : Nat} (h : i < t.length) : (t[i]?.map fun c => (c.toNat : Int)) = some ((Al.bt t i : Nat) : Int) := by
  rw [Al.bt, List.getD_eq_getElem?_getD, List.getElem?_eq_getElem h]; rfl

set_option maxRecDepth 100000 in
set_option maxHeartbeats 4000000 in
theorem Reason_ok (A : List Al.St) (t : List UInt8) (v o m : Nat) (Q : Nat → Nat) (vA : Value) (w : World) (hR : ReasonOf A t v o m Q) (hr : RdS w vA (A.map Al.txt)) (hA : Al.Good A) (ht : t.length ≤ 1000000) :
    Calls Try.prog 43 #[vA, .string (bs t), .int .u8 v, .int .u8 o] w fun e w' => e = .returned (.bool true) ∧ Below w.heap.size w w' := by
  obtain ⟨i0, hi, hz0, hz1, hz2⟩ := info_parts Try.info3
  have HR := hid hR
  have HRA := hid hr
  have HA := hid hA
  have hsz : (bs t).size = t.length := rfl
  have hm : m + 1 ≤ 1000000 := by have := hR.count (m + 1) (Nat.le_refl _); rw [hR.ends] at this; omega
  clear hR hr hA
  go_enter Try.func43, Try.ntmps43
  go_wp2_with fail
  go_loopw [9, 10, 11] (fun f i l wr => ∃ k : Nat, k ≤ m + 1 ∧ i = .int .i64 (Q k : Nat) ∧ l = .int .i64 (if k = 0 then -1 else ((Q (k - 1) : Nat) : Int)) ∧ wr.ownsRow w.heap.size 3 1 f (places Q k).length ((places Q k).map iv) ∧ Below w.heap.size w wr) (fun _ i _ _ => t.length - (intOf i).toNat)
  case atStart => exact ⟨0, Nat.zero_le _, by rw [HR.out.start]; rfl, rfl, World.ownsRow_nil _ _ _ _, Below.refl _ _⟩
  case round =>
    obtain ⟨k, hk, rfl, rfl, hown, hbel⟩ := hrel
    have hsz2 := hbel.size
    by_cases hlt : k ≤ m
    · have hq := HR.out.lt k hlt
      have hq2 := (HR.out.step k hlt).bd
      have hFt : ∀ f ∈ places Q k, f + 1 < t.length := by
        intro f hf
        obtain ⟨j, hj, rfl⟩ := List.mem_map.1 hf
        have := HR.out.lt j (by have := List.mem_range.1 hj; omega)
        omega
      have hFl : (places Q k).length ≤ 1000000 := by rw [places_len]; omega
      have HSTEP := hid (fun wx vF (h1 : RdS wx vA (A.map Al.txt)) (h2 : RdI wx vF (places Q k)) => step_ok (HR.out.step k hlt) h1 h2 hFt hFl HA.out ht)
      have HK0 := fun wx vF (h2 : RdI wx vF (places Q k)) => known_any t (places Q k) (Al.bt t (Q k)) (Al.bt t (Q k + 1)) vF wx h2 hFt ht hFl
      simp only [HR.out.new k hlt] at HK0
      have HK := hid HK0
      have i0' := ix t (Q k) (Q k : Nat) (Al.bt t (Q k) : Nat) rfl (bt_ix (by omega))
      have i1' := ix t (Q k + 1) ((Q k : Nat) + 1) (Al.bt t (Q k + 1) : Nat) (by simp) (bt_ix (by omega))
      have HPS := hid (places_succ Q k)
      have hpl := places_len Q k
      have HQ1 : Hid ((if k + 1 = 0 then -1 else ((Q (k + 1 - 1) : Nat) : Int)) = (Q k : Nat)) := by rw [Hid, if_neg (by omega)]; rfl
      have HOW := hid hown
      have HBE := hid hbel
      have HRI : Hid (RdI wr u9 (places Q k)) := ownsRow_zero hown
      have HRS := hid (HRA.out.below hbel)
      clear HK0 hFt hFl hown hbel
      generalize ((Al.bt t (Q k) : Nat) : Int) = X at *
      generalize ((Al.bt t (Q k + 1) : Nat) : Int) = Y at *
      generalize hqk : Q k = qk at *
      generalize hqj : Q (k + 1) = qj at *
      generalize (if k = 0 then (-1 : Int) else ((Q (k - 1) : Nat) : Int)) = L at *
      have hw1 : IntKind.i64.wrap ((qk : Int) + 1) = (qk : Int) + 1 := IntWalk.i64_in _ ⟨by omega, by omega⟩
      go_wp2_with fail
      refine (HSTEP.out _ _ HRS.out HRI.out).mono ?_
      rintro e w1 ⟨rfl, n1, hn1⟩
      have HRI1 : Hid (RdI w1 u9 (places Q k)) := by rw [hn1]; exact HRI.out
      have HOW1 : Hid (w1.ownsRow w.heap.size 3 1 u9 (places Q k).length ((places Q k).map iv)) := by rw [hn1]; exact HOW.out
      have HBE1 : Hid (Below w.heap.size w w1) := by rw [hn1]; exact ⟨HBE.out.os, HBE.out.tape, HBE.out.output, HBE.out.size, HBE.out.block⟩
      clear hn1 HRI HOW HBE HSTEP HRS hsz2
      go_wp2_with fail
      go_quiet ((go_at_call 74; exact Calls.quiet_of_same (HK.out _ _ HRI1.out)))
      have HOW2 : Hid ((w1.drewN nq).ownsRow w.heap.size 3 1 u9 (places Q k).length ((places Q k).map iv)) := HOW1.out
      have HBE2 : Hid (Below w.heap.size w (w1.drewN nq)) := ⟨HBE1.out.os, HBE1.out.tape, HBE1.out.output, HBE1.out.size, HBE1.out.block⟩
      generalize hwq : w1.drewN nq = w2 at HOW2 HBE2 ⊢
      clear hwq HRI1 HOW1 HBE1 HK
      have hsz3 := HBE2.out.size
      have hown2 := HOW2.out
      have hbel2 := HBE2.out
      go_wp2_with (at_builtin; refine append_new (w0 := w) rfl (.tmp 36) (.tmp 38) 107 rfl w.heap.size 3 i0 (.int .i64 0) 1 8 Try.underlying107 hi hz0 hz1 hz2 rfl (by decide) _ _ _ rfl hown2 #[.int .i64 qk] rfl (by simp [Value.oneCell']) rfl (by omega) (by decide) hsz3 hbel2 ?_; intro v3 w3 hown3 hbel3)
      go_roundw
      case rel => exact ⟨k + 1, by omega, by rw [hqj], by rw [HQ1.out], by rw [HPS.out]; simpa [iv] using hown3, hbel3⟩
      case measure => simp [intOf]; omega
    · have hk2 : k = m + 1 := by omega
      subst hk2
      have HQL : Hid ((if m + 1 = 0 then -1 else ((Q (m + 1 - 1) : Nat) : Int)) = (Q m : Nat)) := by rw [Hid, if_neg (by omega)]; rfl
      rw [HQL.out, HR.out.ends]
      have hq := HR.out.lt m (Nat.le_refl _)
      have i0' := ix t (Q m) (Q m : Nat) v rfl (by rw [bt_ix (by omega), HR.out.last.1])
      have i1' := ix t (Q m + 1) ((Q m : Nat) + 1) o (by simp) (by rw [bt_ix (by omega), HR.out.last.2])
      have HBE := hid hbel
      clear HQL hown hbel
      generalize Q m = q at *
      have hw1 : IntKind.i64.wrap ((q : Int) + 1) = (q : Int) + 1 := IntWalk.i64_in _ ⟨by omega, by omega⟩
      have hg : decide ((q : Int) ≥ 0) = true := by simp
      go_wp2_with fail
      go_ret
      exact ⟨rfl, HBE.out⟩
end Go.Proofs.Ytmjlcajcobbcgab
