import Derived.Test.YtmjlcajcobbcgabXd
import Derived.Laws.IdiomStrings
import Derived.Test.YtmjlcajcobbcgabXa
namespace Go.Proofs.Ytmjlcajcobbcgab
open Go.RowKit

/-- A byte names the variable v. -/
def nm (v : Nat) (c : UInt8) : Bool := Al.vB c.toNat && (Al.vi c == v)
def namedP (A : List Al.St) (v : Nat) : Bool := A.any fun s => (Al.txt s).any (nm v)
theorem varI_nm (v : Nat) (c : UInt8) : (varI (c.toNat : Nat) == (v : Int)) = nm v c := by
  rw [Bool.eq_iff_iff]
  simp only [beq_iff_eq, nm, Bool.and_eq_true, Al.vB, decide_eq_true_eq, Al.vi, varI, inI]
  constructor
  · intro h
    split at h
    · omega
    · exact ⟨⟨by omega, by omega⟩, by omega⟩
  · rintro ⟨⟨h1, h2⟩, h3⟩
    rw [if_neg (by omega)]; omega
theorem any_take {α : Type} (p : α → Bool) {l : List α} {k : Nat} (h : k < l.length) : (l.take (k + 1)).any p = ((l.take k).any p || p l[k]) := by
  rw [List.take_succ_eq_append_getElem h, List.any_append, List.any_cons, List.any_nil, Bool.or_false]
theorem any_hit {α : Type} {p : α → Bool} {l : List α} {k : Nat} (h : k < l.length) (hp : p l[k] = true) : l.any p = true := List.any_eq_true.2 ⟨l[k], List.getElem_mem h, hp⟩

set_option maxRecDepth 100000 in
set_option maxHeartbeats 1000000 in
theorem Named_some (A : List Al.St) (gl cap v : Nat) (w : World) (hc : ∀ k (h : k < A.length), w.cell? ⟨gl, k, none⟩ = some (.string (bs (Al.txt A[k])))) (hcap : A.length ≤ 100000) :
    Calls Try.prog 14 #[.slice (some ⟨gl, 0, none⟩) A.length cap, .int .i64 v] w fun e w' => e = .returned (.bool (namedP A v)) ∧ w' = w := by
  have HC := hid hc
  clear hc
  go_enter Try.func14, Try.ntmps14
  go_wp2_with fail
  go_loop [5] (fun i => ∃ k : Nat, k ≤ A.length ∧ i = .int .i64 k ∧ ((A.take k).any fun s => (Al.txt s).any (nm v)) = false) (fun i => A.length - (intOf i).toNat)
  case atStart => exact ⟨0, Nat.zero_le _, rfl, rfl⟩
  case round =>
    obtain ⟨k, hk, rfl, hh⟩ := hrel
    have HH := hid hh
    clear hh
    by_cases hlt : k < A.length
    · have hcell := HC.out k hlt
      have HAS := hid (any_take (fun s => (Al.txt s).any (nm v)) hlt)
      have HAH : Hid ((Al.txt A[k]).any (nm v) = true → namedP A v = true) := fun h => any_hit (p := fun s => (Al.txt s).any (nm v)) hlt h
      have htl : (Al.txt A[k]).length ≤ 6 := by
        simp only [Al.txt, List.length_map, Al.shp_length]; exact (Al.shpLen_ge _).2
      generalize Al.txt A[k] = l at *
      have hsz : (bs l).size = l.length := rfl
      go_wp2_with fail
      go_loop [6] (fun i => ∃ j : Nat, j ≤ l.length ∧ i = .int .i64 j ∧ (l.take j).any (nm v) = false) (fun i => l.length - (intOf i).toNat)
      case atStart => exact ⟨0, Nat.zero_le _, rfl, rfl⟩
      case round =>
        obtain ⟨j, hj, rfl, hjj⟩ := hrel
        have HJ := hid hjj
        clear hjj
        by_cases hlt2 : j < l.length
        · have hi := ix l j j (l[j].toNat : Nat) rfl (by rw [List.getElem?_eq_getElem hlt2]; rfl)
          have HLS := hid (any_take (nm v) hlt2)
          have HLH : Hid (nm v l[j] = true → l.any (nm v) = true) := fun h => any_hit hlt2 h
          generalize l[j] = c at *
          have HV := hid (fun wx => Var_any (c.toNat : Nat) wx (by omega) (by have := c.toNat_lt; omega))
          have hnm := varI_nm v c
          cases e : nm v c with
          | true =>
            rw [e] at hnm
            have hT := HAH.out (HLH.out e)
            have HT := hid hT
            clear e hT
            generalize varI (c.toNat : Nat) = q at *
            have hq : q = (v : Int) := by simpa using hnm
            subst hq
            clear hnm
            go_wp2_with (go_at_call 40; refine (HV.out _).mono ?_; rintro e w' ⟨rfl, rfl⟩)
            go_ret
            exact ⟨by rw [HT.out]; rfl, rfl⟩
          | false =>
            rw [e] at hnm
            have HE := hid e
            clear e
            go_wp2_with (go_at_call 40; refine (HV.out _).mono ?_; rintro e w' ⟨rfl, rfl⟩)
            go_round
            case rel => exact ⟨j + 1, by omega, by go_num, by rw [HLS.out, HJ.out, HE.out]; rfl⟩
            case measure => simp [intOf]; omega
        · have HE : Hid (l.any (nm v) = false) := by have := HJ.out; rwa [List.take_of_length_le (by omega)] at this
          go_wp2_with fail
          go_round
          case rel => exact ⟨k + 1, by omega, by go_num, by rw [HAS.out, HH.out]; simp only [HE.out]; rfl⟩
          case measure => simp [intOf]; omega
    · go_wp2
      go_ret
      exact ⟨by have := HH.out; rw [List.take_of_length_le (by omega)] at this; rw [show namedP A v = false from this]; rfl, rfl⟩
end Go.Proofs.Ytmjlcajcobbcgab

namespace Go.Proofs.Ytmjlcajcobbcgab
open Go.RowKit

set_option maxHeartbeats 400000 in
theorem Named_nil (v : Nat) (w : World) : Calls Try.prog 14 #[.slice none 0 0, .int .i64 v] w fun e w' => e = .returned (.bool false) ∧ w' = w := by
  go_enter Try.func14, Try.ntmps14
  go_wp2_with fail
  refine wp_loop_rounds 1 ?_
  rw [rounds_succ]
  go_wp2
  go_ret
  exact ⟨rfl, rfl⟩
theorem Named_any (A : List Al.St) (u : Value) (v : Nat) (w : World) (hr : RdS w u (A.map Al.txt)) (hcap : A.length ≤ 100000) :
    Calls Try.prog 14 #[u, .int .i64 v] w fun e w' => e = .returned (.bool (namedP A v)) ∧ w' = w := by
  rcases hr.shape with ⟨rfl, hn⟩ | ⟨gl, cap, rfl, hl, hm, hg, hc⟩
  · have : A = [] := by simpa using hn
    subst this
    exact Named_nil v w
  · rw [List.length_map]
    exact Named_some A gl cap v w (fun k h => by have := hc k (by simpa using h); simpa using this) hcap

/-- The variable that a text names. -/
def varN (A : List Al.St) : List UInt8 → Int
  | [c] => if Al.vB c.toNat = true ∧ namedP A (Al.vi c) = true then (Al.vi c : Nat) else -1
  | _ => -1
theorem varN_one (A : List Al.St) (c : UInt8) : varN A [c] = if Al.vB c.toNat = true ∧ namedP A (Al.vi c) = true then ((Al.vi c : Nat) : Int) else -1 := rfl
theorem varN_len {A : List Al.St} {l : List UInt8} (h : l.length ≠ 1) : varN A l = -1 := by
  match l with
  | [] => rfl
  | [_] => simp at h
  | _ :: _ :: _ => rfl

set_option maxHeartbeats 400000 in
theorem Variable_any (A : List Al.St) (u : Value) (l : List UInt8) (w : World) (hr : RdS w u (A.map Al.txt)) (hcap : A.length ≤ 100000) :
    Calls Try.prog 76 #[u, .string (bs l)] w fun e w' => e = .returned (.int .i64 (varN A l)) ∧ w' = w := by
  have hsz : (bs l).size = l.length := rfl
  by_cases h1 : l.length = 1
  · obtain ⟨c, rfl⟩ : ∃ c, l = [c] := by
      match l, h1 with
      | [c], _ => exact ⟨c, rfl⟩
    have hi := ix [c] 0 0 c.toNat rfl rfl
    have hs1 : (bs [c]).size = 1 := rfl
    have HV := hid (fun wx => Var_any (c.toNat : Nat) wx (by omega) (by have := c.toNat_lt; omega))
    by_cases hv : Al.vB c.toNat = true
    · have hv1 := v_bd hv
      have HVO := hid (fun wx => Var_ok c wx hv)
      have HN := hid (Named_any A u (Al.vi c) w hr hcap)
      cases hn : namedP A (Al.vi c) with
      | true =>
        have HF : Hid (varN A [c] = (Al.vi c : Nat)) := by rw [Hid, varN_one, if_pos ⟨hv, hn⟩]
        rw [hn] at HN
        clear hn hsz h1
        generalize Al.vi c = V at *
        go_enter Try.func76, Try.ntmps76
        go_wp2_with (first | (go_at_call 40; refine (HVO.out _).mono ?_; rintro e w' ⟨rfl, rfl⟩) | (go_at_call 14; refine HN.out.mono ?_; rintro e w' ⟨rfl, rfl⟩))
        go_ret
        exact ⟨by rw [HF.out]; rfl, rfl⟩
      | false =>
        have HF : Hid (varN A [c] = -1) := by rw [Hid, varN_one, if_neg (fun h => by rw [hn] at h; cases h.2)]
        rw [hn] at HN
        clear hn hsz h1
        generalize Al.vi c = V at *
        go_enter Try.func76, Try.ntmps76
        go_wp2_with (first | (go_at_call 40; refine (HVO.out _).mono ?_; rintro e w' ⟨rfl, rfl⟩) | (go_at_call 14; refine HN.out.mono ?_; rintro e w' ⟨rfl, rfl⟩))
        go_ret
        exact ⟨by rw [HF.out]; rfl, rfl⟩
    · have HF : Hid (varN A [c] = -1) := by rw [Hid, varN_one, if_neg (fun h => hv h.1)]
      have hneg := var_no hv
      clear hsz h1
      go_enter Try.func76, Try.ntmps76
      go_wp2_with (go_at_call 40; refine (HV.out _).mono ?_; rintro e w' ⟨rfl, rfl⟩)
      go_ret
      exact ⟨by rw [HF.out]; rfl, rfl⟩
  · have HF : Hid (varN A l = -1) := varN_len h1
    have hb : ((l.length : Int) != 1) = true := by simp; omega
    go_enter Try.func76, Try.ntmps76
    go_wp2
    go_ret
    exact ⟨by rw [HF.out]; rfl, rfl⟩

/-- The sites of a variable as a text. -/
def siteB (o : Nat) : UInt8 := UInt8.ofNat (65 + o)
def setOf (T : Al.Tb) (v : Nat) : List UInt8 := ((List.range 12).filter fun o => T v o).map siteB
theorem conv_one (k : Nat) (hk : k < 12) (wx : World) : (convert 71 9 (.slice (some ⟨wx.heap.size, 0, none⟩) 1 1)).run Try.prog (wx.alloc (.cells #[.int .u8 (65 + (k : Int))] 5)) = .ok (.string (bs [siteB k])) (wx.alloc (.cells #[.int .u8 (65 + (k : Int))] 5)) := by
  have h := run_convert_bytes_back (P := Try.prog) (wx.alloc (.cells #[.int .u8 (65 + (k : Int))] 5)) 71 9 5 ⟨wx.heap.size, 0, none⟩ 1 [siteB k] Try.underlying71 Try.underlying5 Try.underlying9 (fun j hj => by
    match j, hj with
    | 0, _ =>
      have e : (((siteB k).toNat : Nat) : Int) = 65 + (k : Int) := by
        unfold siteB; simp; omega
      rw [show ((⟨wx.heap.size, 0, none⟩ : Addr).add 0) = ⟨wx.heap.size, 0, none⟩ from by simp [Addr.add], block_cell (heap_alloc_new wx _)]
      simp [e])
  exact h

theorem fil_range_succ (p : Nat → Bool) (k : Nat) : ((List.range (k + 1)).filter p).map siteB = ((List.range k).filter p).map siteB ++ (if p k = true then [siteB k] else []) := by
  rw [List.range_succ, List.filter_append, List.map_append]
  by_cases e : p k = true
  · simp [e]
  · simp [e]
theorem bs_app (a b : List UInt8) : bs a ++ bs b = bs (a ++ b) := ByteArray.mk_append_mk a b

set_option maxRecDepth 100000 in
set_option maxHeartbeats 1000000 in
theorem Set_any (g : Nat) (T : Al.Tb) (v : Nat) (w : World) (ht : Tab w g T) (hv : v < 12) :
    Calls Try.prog 77 #[.slice (some ⟨g, 0, none⟩) 144 144, .int .i64 v] w fun e w' => e = .returned (.string (bs (setOf T v))) ∧ Below w.heap.size w w' := by
  have hba := bs_app
  have HT := hid ht
  have hgl := lt_of_block ht
  clear ht
  go_enter Try.func77, Try.ntmps77
  go_wp2_with fail
  go_loopw [5, 6] (fun s i wr => ∃ k : Nat, k ≤ 12 ∧ i = .int .i64 k ∧ s = .string (bs (((List.range k).filter fun o => T v o).map siteB)) ∧ Below w.heap.size w wr) (fun _ i _ => 12 - (intOf i).toNat)
  case atStart => exact ⟨0, Nat.zero_le _, rfl, rfl, Below.refl _ _⟩
  case round =>
    obtain ⟨k, hk, rfl, rfl, hbel⟩ := hrel
    have hsz := hbel.size
    have hlen : (((List.range k).filter fun o => T v o).map siteB).length ≤ k := by
      rw [List.length_map]; have := List.length_filter_le (fun o => T v o) (List.range k); simpa using this
    by_cases hlt : k < 12
    · have HFS := hid (fil_range_succ (fun o => T v o) k)
      generalize ((List.range k).filter fun o => T v o).map siteB = L at *
      have hc := cell_below hbel (HT.out.cell hv hlt) hgl
      have hL : (bs L).size = L.length := rfl
      have hX : (bs [siteB k]).size = 1 := rfl
      cases e : T v k with
      | true =>
        rw [e] at hc
        have HR : Hid (((List.range (k + 1)).filter fun o => T v o).map siteB = L ++ [siteB k]) := by rw [Hid, HFS.out, if_pos e]
        have hcv := conv_one k hlt
        clear e
        go_wp2_with fail
        go_roundw
        case rel => exact ⟨k + 1, by omega, by go_num, by rw [HR.out], hbel.alloc hsz _⟩
        case measure => simp [intOf]; omega
      | false =>
        rw [e] at hc
        have HR : Hid (((List.range (k + 1)).filter fun o => T v o).map siteB = L) := by rw [Hid, HFS.out, if_neg (by rw [e]; simp)]; simp
        clear e
        go_wp2_with fail
        go_roundw
        case rel => exact ⟨k + 1, by omega, by go_num, by rw [HR.out], hbel⟩
        case measure => simp [intOf]; omega
    · have hk12 : k = 12 := by omega
      subst hk12
      go_wp2
      go_ret
      exact ⟨rfl, hbel⟩
end Go.Proofs.Ytmjlcajcobbcgab

namespace Go.Proofs.Ytmjlcajcobbcgab
open Go.RowKit

/-- A text of fields, each above the one ahead of it. -/
def okAt (f : List UInt8) (i : Nat) : Bool := Al.fB (Al.bt f i) && (i == 0 || decide (Al.bt f (i - 1) < Al.bt f i))
def fieldOk (f : List UInt8) : Bool := (List.range f.length).all (okAt f)
theorem all_range_succ (p : Nat → Bool) (k : Nat) : (List.range (k + 1)).all p = ((List.range k).all p && p k) := by
  rw [List.range_succ, List.all_append]; simp
theorem fieldOk_no {f : List UInt8} {k : Nat} (h : k < f.length) (hk : okAt f k = false) : fieldOk f = false := by
  unfold fieldOk
  rw [List.all_eq_false]
  exact ⟨k, by simpa using h, by simp [hk]⟩

set_option maxRecDepth 100000 in
set_option maxHeartbeats 1000000 in
theorem FieldText_any (f : List UInt8) (w : World) (hl : f.length ≤ 9223372036854775807) :
    Calls Try.prog 10 #[.string (bs f)] w fun e w' => e = .returned (.bool (fieldOk f)) ∧ ∃ n, w' = w.drewN n := by
  have hsz : (bs f).size = f.length := rfl
  go_enter Try.func10, Try.ntmps10
  go_wp2
  go_loopw [3] (fun i wr => ∃ k : Nat, k ≤ f.length ∧ i = .int .i64 k ∧ (List.range k).all (okAt f) = true ∧ ∃ n, wr = w.drewN n) (fun i _ => f.length - (intOf i).toNat)
  case atStart => exact ⟨0, Nat.zero_le _, rfl, rfl, 0, rfl⟩
  case round =>
    obtain ⟨k, hk, rfl, hok, n, hwr⟩ := hrel
    have HOK := hid hok
    have HW := hid hwr
    clear hok hwr
    by_cases hlt : k < f.length
    · have hi := ix f k k (Al.bt f k : Nat) rfl (by simp [Al.bt, List.getElem?_eq_getElem hlt])
      have HAS := hid (all_range_succ (okAt f) k)
      have HFN := hid (fieldOk_no (f := f) hlt)
      have hbl := bt_le f k
      have HFD := hid (fun wx => Field_any (Al.bt f k : Nat) wx (by omega) (by omega))
      by_cases hf : Al.fB (Al.bt f k) = true
      · have hge := field_yes hf
        have hd : decide (fieldI (Al.bt f k : Nat) < 0) = false := by simp; omega
        by_cases hk0 : k = 0
        · subst hk0
          have HO : Hid (okAt f 0 = true) := by simp [Hid, okAt, hf]
          have hi0 := ix f 0 0 (Al.bt f 0 : Nat) rfl (by simp [Al.bt, List.getElem?_eq_getElem hlt])
          clear hf
          generalize fieldI (Al.bt f 0 : Nat) = q at *
          go_wp2_with fail
          go_quiet ((go_at_call 33; exact Calls.quiet_of_same (HFD.out _)))
          go_wp2_with fail
          go_roundw
          case rel => exact ⟨0 + 1, by omega, by go_num, by rw [HAS.out, HOK.out, HO.out]; rfl, drew_more HW _⟩
          case measure => simp [intOf]; omega
        · have hkp : (0 : Int) < (k : Int) := by omega
          have hdk : decide (0 < k) = true := by simp; omega
          have hi2 := ix f (k - 1) ((k : Int) - 1) (Al.bt f (k - 1) : Nat) (by omega) (by simp [Al.bt, List.getElem?_eq_getElem (show k - 1 < f.length by omega)])
          have hwp : IntKind.i64.wrap ((k : Int) - 1) = (k : Int) - 1 := IntWalk.i64_in _ ⟨by omega, by omega⟩
          by_cases hlo : Al.bt f (k - 1) < Al.bt f k
          · have HO : Hid (okAt f k = true) := by simp [Hid, okAt, hf, hlo]
            have hd2 : decide ((Al.bt f k : Int) ≤ (Al.bt f (k - 1) : Int)) = false := by simp; omega
            clear hf
            generalize fieldI (Al.bt f k : Nat) = q at *
            generalize Al.bt f k = b1 at *
            generalize Al.bt f (k - 1) = b0 at *
            go_wp2_with fail
            go_quiet ((go_at_call 33; exact Calls.quiet_of_same (HFD.out _)))
            go_wp2_with fail
            go_roundw
            case rel => exact ⟨k + 1, by omega, by go_num, by rw [HAS.out, HOK.out, HO.out]; rfl, drew_more HW _⟩
            case measure => simp [intOf]; omega
          · have HO : Hid (fieldOk f = false) := HFN.out (by simp [okAt, hf, hk0]; omega)
            have hd2 : (Al.bt f k : Int) ≤ (Al.bt f (k - 1) : Int) := by omega
            clear hf
            generalize fieldI (Al.bt f k : Nat) = q at *
            generalize Al.bt f k = b1 at *
            generalize Al.bt f (k - 1) = b0 at *
            go_wp2_with fail
            go_quiet ((go_at_call 33; exact Calls.quiet_of_same (HFD.out _)))
            go_wp2_with fail
            go_ret
            exact ⟨by rw [HO.out]; rfl, drew_more HW _⟩
      · have hlt0 := field_no hf
        have HO : Hid (fieldOk f = false) := HFN.out (by simp [okAt, hf])
        clear hf
        generalize fieldI (Al.bt f k : Nat) = q at *
        go_wp2_with fail
        go_quiet ((go_at_call 33; exact Calls.quiet_of_same (HFD.out _)))
        go_wp2_with fail
        go_ret
        exact ⟨by rw [HO.out]; rfl, drew_more HW _⟩
    · have HO : Hid (fieldOk f = true) := by have := HOK.out; rw [show k = f.length from by omega] at this; exact this
      go_wp2
      go_ret
      exact ⟨by rw [HO.out]; rfl, n, HW.out⟩
end Go.Proofs.Ytmjlcajcobbcgab

namespace Go.Proofs.Ytmjlcajcobbcgab
open Go.RowKit

theorem setOf_congr {T S : Al.Tb} {v : Nat} (h : ∀ o, o < 12 → T v o = S v o) : setOf T v = setOf S v := by
  unfold setOf
  congr 1
  apply List.filter_congr
  intro o ho
  exact h o (by simpa using ho)
theorem meet_congr {T S : Al.Tb} {v u : Nat} (h : ∀ a o, o < 12 → T a o = S a o) : Al.meetT T v u = Al.meetT S v u := by
  rw [Bool.eq_iff_iff, Al.meet_iff, Al.meet_iff]
  constructor
  · rintro ⟨q, hq, h1, h2⟩; exact ⟨q, hq, by rw [← h _ _ hq]; exact h1, by rw [← h _ _ hq]; exact h2⟩
  · rintro ⟨q, hq, h1, h2⟩; exact ⟨q, hq, by rw [h _ _ hq]; exact h1, by rw [h _ _ hq]; exact h2⟩

/-- Points, by the document: the sites, whether they are exact, the error. -/
def pointsP (A : List Al.St) (l f : List UInt8) : List UInt8 × Bool × Nat :=
  if varN A l < 0 then ([], false, 5) else if fieldOk f = false then ([], false, 6) else
    (setOf (Al.leastP A f) (varN A l).toNat, setOf (Al.leastP A f) (varN A l).toNat == setOf (Al.leastP A Al.allF) (varN A l).toNat, 0)
theorem varN_bd (A : List Al.St) (l : List UInt8) : -1 ≤ varN A l ∧ varN A l < 12 := by
  match l with
  | [] => exact ⟨by show (-1 : Int) ≤ -1; decide, by show (-1 : Int) < 12; decide⟩
  | [c] =>
    rw [varN_one]
    split
    · rename_i h
      have := vi_lt h.1
      omega
    · omega
  | _ :: _ :: _ => exact ⟨by show (-1 : Int) ≤ -1; decide, by show (-1 : Int) < 12; decide⟩

/-- The least table's sites of a variable: Least and Set behind each other. -/
theorem Least_ok (A : List Al.St) (v : Value) (f : List UInt8) (w : World) (hA : ∀ a ∈ A, Al.Wf a) (hr : RdS w v (A.map Al.txt)) (hcap : A.length ≤ 100000) (hf : f.length ≤ 9223372036854775807) :
    Calls Try.prog 78 #[v, .string (bs f)] w fun e w' => ∃ g T, e = .returned (.slice (some ⟨g, 0, none⟩) 144 144) ∧ Tab w' g T ∧ (∀ a o, o < 12 → T a o = Al.leastP A f a o) ∧ Below w.heap.size w w' := by
  refine (Least_any A v f w hA hr hcap hf).mono ?_
  rintro e w' ⟨g, T, rfl, _, ht, hl, hb⟩
  exact ⟨g, T, rfl, ht, fun a o ho => Al.least_eq (Al.varsOk_of_wf hA) hl a o ho, hb⟩

theorem bs_all : (bs Al.allF) = { data := #[48, 49, 50, 51, 52, 53] } := rfl

set_option maxRecDepth 100000 in
set_option maxHeartbeats 1000000 in
theorem rPoints_any (b : Nat) (A : List Al.St) (l f : List UInt8) (w : World) (hS : RSess w b A) (hA : Al.Good A) (hsm : A.length ≤ 24) (hf : f.length ≤ 9223372036854775807) :
    Calls Try.prog 49 #[.pointer (some ⟨b, 0, none⟩), .string (bs l), .string (bs f)] w fun e w' =>
      e = .returned (.tuple #[.string (bs (pointsP A l f).1), .bool (pointsP A l f).2.1, .int .i64 ((pointsP A l f).2.2 : Nat)]) ∧ Below w.heap.size w w' := by
  obtain ⟨v, hv, hr⟩ := hS.ex
  have hcv := cell_of_one hv
  have hlb := lt_of_block hv
  have HVA := hid (Variable_any A v l w hr (by omega))
  have HFT := hid (fun wx => FieldText_any f wx hf)
  have hbd := varN_bd A l
  have HPP : Hid (pointsP A l f = if varN A l < 0 then ([], false, 5) else if fieldOk f = false then ([], false, 6) else
    (setOf (Al.leastP A f) (varN A l).toNat, setOf (Al.leastP A f) (varN A l).toNat == setOf (Al.leastP A Al.allF) (varN A l).toNat, 0)) := rfl
  generalize varN A l = n at *
  by_cases hn : n < 0
  · rw [if_pos hn] at HPP
    generalize pointsP A l f = R at *
    have HPP2 := HPP.out
    subst HPP2
    go_enter Try.func49, Try.ntmps49
    go_wp2_with (go_at_call 76; refine HVA.out.mono ?_; rintro e w' ⟨rfl, rfl⟩)
    go_ret3
    exact ⟨rfl, Below.refl _ _⟩
  · rw [if_neg hn] at HPP
    obtain ⟨N, rfl⟩ := Int.eq_ofNat_of_zero_le (show 0 ≤ n by omega)
    rw [Int.toNat_natCast] at HPP
    cases hfo : fieldOk f with
    | false =>
      rw [hfo] at HFT
      rw [if_pos hfo] at HPP
      generalize pointsP A l f = R at *
      have HPP2 := HPP.out
      subst HPP2
      clear hfo
      go_enter Try.func49, Try.ntmps49
      go_wp2_with (first | (go_at_call 76; refine HVA.out.mono ?_; rintro e w' ⟨rfl, rfl⟩) | (go_at_call 10; refine (HFT.out _).mono ?_; rintro e w2 ⟨rfl, n2, rfl⟩))
      go_ret3
      exact ⟨rfl, ⟨rfl, rfl, rfl, Nat.le_refl _, fun _ _ => rfl⟩⟩
    | true =>
      rw [hfo] at HFT
      rw [if_neg (by rw [hfo]; simp)] at HPP
      have HL1 := hid (fun wx (h : RdS wx v (A.map Al.txt)) => Least_ok A v f wx hA.1 h (by omega) hf)
      have HL2 := hid (fun wx (h : RdS wx v (A.map Al.txt)) => Least_ok A v Al.allF wx hA.1 h (by omega) (by decide))
      have hN : N < 12 := by omega
      have HR := hid hr
      have HV := hid hv
      clear hfo hr hv hbd hS
      go_enter Try.func49, Try.ntmps49
      go_wp2_with (first | (go_at_call 76; refine HVA.out.mono ?_; rintro e w' ⟨rfl, rfl⟩) | (go_at_call 10; refine (HFT.out _).mono ?_; rintro e w2 ⟨rfl, n2, rfl⟩))
      refine (HL1.out _ (by exact HR.out)).mono ?_
      rintro e w3 ⟨g, T, rfl, ht3, hT3, hb3⟩
      have hB3 : Below w'.heap.size w' w3 := ⟨hb3.os, hb3.tape, hb3.output, hb3.size, hb3.block⟩
      have HS3 := Set_any g T N w3 ht3 hN
      rw [setOf_congr (hT3 N)] at HS3
      have HS := hid HS3
      clear HS3 hb3 hT3 ht3
      go_wp2_with fail
      refine HS.out.mono ?_
      rintro e w4 ⟨rfl, hb4⟩
      have hB4 := hB3.trans (hb4.mono hB3.size)
      have hc4 := cell_below hB4 hcv hlb
      have hr4 := HR.out.below hB4
      have HB4 := hid hB4
      have HR4 := hid hr4
      clear hB3 hb4 hB4 hr4
      rw [bs_all] at HL2
      go_wp2_with fail
      refine (HL2.out _ HR4.out).mono ?_
      rintro e w5 ⟨g2, T2, rfl, ht5, hT5, hb5⟩
      have hB5 := HB4.out.trans (hb5.mono HB4.out.size)
      have HS5 := Set_any g2 T2 N w5 ht5 hN
      rw [setOf_congr (hT5 N)] at HS5
      have HS6 := hid HS5
      clear HS5 hb5 hT5 ht5
      go_wp2_with fail
      refine HS6.out.mono ?_
      rintro e w6 ⟨rfl, hb6⟩
      have hB6 := hB5.trans (hb6.mono hB5.size)
      have hbt := bs_toList
      have HB6 := hid hB6
      clear hB6 hb6 hB5
      generalize setOf (Al.leastP A f) N = X at *
      generalize setOf (Al.leastP A Al.allF) N = Y at *
      go_wp2_with fail
      go_ret3
      exact ⟨by rw [HPP.out]; simp, HB6.out⟩

/-- Alias, by the document. -/
def aliasP (A : List Al.St) (l r f : List UInt8) : Bool × Bool × Nat :=
  if varN A l < 0 ∨ varN A r < 0 then (false, false, 5) else if fieldOk f = false then (false, false, 6) else
    (Al.meetT (Al.leastP A f) (varN A l).toNat (varN A r).toNat, Al.meetT (Al.leastP A f) (varN A l).toNat (varN A r).toNat == Al.meetT (Al.leastP A Al.allF) (varN A l).toNat (varN A r).toNat, 0)

set_option maxRecDepth 100000 in
set_option maxHeartbeats 1000000 in
theorem rAlias_any (b : Nat) (A : List Al.St) (l r f : List UInt8) (w : World) (hS : RSess w b A) (hA : Al.Good A) (hsm : A.length ≤ 24) (hf : f.length ≤ 9223372036854775807) :
    Calls Try.prog 50 #[.pointer (some ⟨b, 0, none⟩), .string (bs l), .string (bs r), .string (bs f)] w fun e w' =>
      e = .returned (.tuple #[.bool (aliasP A l r f).1, .bool (aliasP A l r f).2.1, .int .i64 ((aliasP A l r f).2.2 : Nat)]) ∧ Below w.heap.size w w' := by
  obtain ⟨v, hv, hr⟩ := hS.ex
  have hcv := cell_of_one hv
  have hlb := lt_of_block hv
  have HVA := hid (Variable_any A v l w hr (by omega))
  have HVB := hid (Variable_any A v r w hr (by omega))
  have HFT := hid (fun wx => FieldText_any f wx hf)
  have hbd := varN_bd A l
  have hbr := varN_bd A r
  have HPP : Hid (aliasP A l r f = if varN A l < 0 ∨ varN A r < 0 then (false, false, 5) else if fieldOk f = false then (false, false, 6) else
    (Al.meetT (Al.leastP A f) (varN A l).toNat (varN A r).toNat, Al.meetT (Al.leastP A f) (varN A l).toNat (varN A r).toNat == Al.meetT (Al.leastP A Al.allF) (varN A l).toNat (varN A r).toNat, 0)) := rfl
  generalize varN A l = n at *
  generalize varN A r = m at *
  by_cases hn : n < 0
  · rw [if_pos (.inl hn)] at HPP
    go_enter Try.func50, Try.ntmps50
    go_wp2_with fail
    refine HVA.out.mono ?_
    rintro e w1 ⟨rfl, rfl⟩
    go_wp2_with fail
    refine HVB.out.mono ?_
    rintro e w2 ⟨rfl, rfl⟩
    go_wp2_with fail
    go_ret3
    exact ⟨by rw [HPP.out]; rfl, Below.refl _ _⟩
  · have hdn : decide (n < 0) = false := by simpa using hn
    by_cases hm : m < 0
    · rw [if_pos (.inr hm)] at HPP
      go_enter Try.func50, Try.ntmps50
      go_wp2_with fail
      refine HVA.out.mono ?_
      rintro e w1 ⟨rfl, rfl⟩
      go_wp2_with fail
      refine HVB.out.mono ?_
      rintro e w2 ⟨rfl, rfl⟩
      go_wp2_with fail
      go_ret3
      exact ⟨by rw [HPP.out]; rfl, Below.refl _ _⟩
    · have hdm : decide (m < 0) = false := by simpa using hm
      rw [if_neg (by omega)] at HPP
      obtain ⟨N, rfl⟩ := Int.eq_ofNat_of_zero_le (show 0 ≤ n by omega)
      obtain ⟨M, rfl⟩ := Int.eq_ofNat_of_zero_le (show 0 ≤ m by omega)
      rw [Int.toNat_natCast, Int.toNat_natCast] at HPP
      clear hdn hdm
      cases hfo : fieldOk f with
      | false =>
        rw [hfo] at HFT
        rw [if_pos hfo] at HPP
        clear hfo
        go_enter Try.func50, Try.ntmps50
        go_wp2_with fail
        refine HVA.out.mono ?_
        rintro e w1 ⟨rfl, rfl⟩
        go_wp2_with fail
        refine HVB.out.mono ?_
        rintro e w2 ⟨rfl, rfl⟩
        go_wp2_with fail
        refine (HFT.out _).mono ?_
        rintro e w3 ⟨rfl, n2, rfl⟩
        go_wp2_with fail
        go_ret3
        exact ⟨by rw [HPP.out]; rfl, ⟨rfl, rfl, rfl, Nat.le_refl _, fun _ _ => rfl⟩⟩
      | true =>
        rw [hfo] at HFT
        rw [if_neg (by rw [hfo]; simp)] at HPP
        have HL1 := hid (fun wx (h : RdS wx v (A.map Al.txt)) => Least_ok A v f wx hA.1 h (by omega) hf)
        have HL2 := hid (fun wx (h : RdS wx v (A.map Al.txt)) => Least_ok A v Al.allF wx hA.1 h (by omega) (by decide))
        have hN : N < 12 := by omega
        have hM : M < 12 := by omega
        have HR := hid hr
        clear hfo hr hv hbd hbr hS
        rw [bs_all] at HL2
        go_enter Try.func50, Try.ntmps50
        go_wp2_with fail
        refine HVA.out.mono ?_
        rintro e w1 ⟨rfl, rfl⟩
        go_wp2_with fail
        refine HVB.out.mono ?_
        rintro e w2 ⟨rfl, rfl⟩
        go_wp2_with fail
        refine (HFT.out _).mono ?_
        rintro e w3 ⟨rfl, n2, rfl⟩
        go_wp2_with fail
        refine (HL1.out _ (by exact HR.out)).mono ?_
        rintro e w4 ⟨g, T, rfl, ht4, hT4, hb4⟩
        have hB4 : Below w2.heap.size w2 w4 := ⟨hb4.os, hb4.tape, hb4.output, hb4.size, hb4.block⟩
        have HM4 := Meet_any g T N M w4 ht4 hN hM
        rw [meet_congr hT4] at HM4
        have HM1 := hid HM4
        have hc4 := cell_below hB4 hcv hlb
        have hr4 := HR.out.below hB4
        have HB4 := hid hB4
        have HR4 := hid hr4
        clear HM4 hb4 hT4 ht4 hB4 hr4
        go_wp2_with fail
        refine HM1.out.mono ?_
        rintro e w5 ⟨rfl, rfl⟩
        go_wp2_with fail
        refine (HL2.out _ HR4.out).mono ?_
        rintro e w6 ⟨g2, T2, rfl, ht6, hT6, hb6⟩
        have hB6 := HB4.out.trans (hb6.mono HB4.out.size)
        have HM6 := Meet_any g2 T2 N M w6 ht6 hN hM
        rw [meet_congr hT6] at HM6
        have HM2 := hid HM6
        have HB6 := hid hB6
        clear HM6 hb6 hT6 ht6 hB6
        go_wp2_with fail
        refine HM2.out.mono ?_
        rintro e w7 ⟨rfl, rfl⟩
        generalize Al.meetT (Al.leastP A f) N M = X at *
        generalize Al.meetT (Al.leastP A Al.allF) N M = Y at *
        go_wp2_with fail
        go_ret3
        exact ⟨by rw [HPP.out]; simp, HB6.out⟩
end Go.Proofs.Ytmjlcajcobbcgab

namespace Go.Proofs.Ytmjlcajcobbcgab
open Go.RowKit

def varByte (v : Nat) : UInt8 := UInt8.ofNat (97 + v)
def itemP (T : Al.Tb) (v : Nat) : List UInt8 := [varByte v, 58] ++ setOf T v ++ [59]
/-- Batch, by the document, up to a variable. -/
def batchTo (A : List Al.St) (k : Nat) : List UInt8 := (List.range k).flatMap fun v => if namedP A v = true then itemP (Al.leastP A Al.allF) v else []
def batchP (A : List Al.St) : List UInt8 := batchTo A 12
theorem batch_succ (A : List Al.St) (k : Nat) : batchTo A (k + 1) = batchTo A k ++ (if namedP A k = true then itemP (Al.leastP A Al.allF) k else []) := by
  unfold batchTo
  rw [List.range_succ, List.flatMap_append]; simp
theorem setOf_len (T : Al.Tb) (v : Nat) : (setOf T v).length ≤ 12 := by
  unfold setOf
  rw [List.length_map]; have := List.length_filter_le (fun o => T v o) (List.range 12); simpa using this
theorem batch_len (A : List Al.St) : ∀ k, (batchTo A k).length ≤ 15 * k
  | 0 => by simp [batchTo]
  | k + 1 => by
    have h1 := batch_len A k
    have h2 := setOf_len (Al.leastP A Al.allF) k
    rw [batch_succ, List.length_append]
    split
    · simp [itemP]; omega
    · simp; omega

theorem conv_two (k : Nat) (hk : k < 12) (wx : World) : (convert 71 9 (.slice (some ⟨wx.heap.size, 0, none⟩) 2 2)).run Try.prog (wx.alloc (.cells #[.int .u8 (97 + (k : Int)), .int .u8 58] 5)) = .ok (.string (bs [varByte k, 58])) (wx.alloc (.cells #[.int .u8 (97 + (k : Int)), .int .u8 58] 5)) := by
  have h := run_convert_bytes_back (P := Try.prog) (wx.alloc (.cells #[.int .u8 (97 + (k : Int)), .int .u8 58] 5)) 71 9 5 ⟨wx.heap.size, 0, none⟩ 2 [varByte k, 58] Try.underlying71 Try.underlying5 Try.underlying9 (fun j hj => by
    match j, hj with
    | 0, _ =>
      have e : (((varByte k).toNat : Nat) : Int) = 97 + (k : Int) := by
        unfold varByte; simp; omega
      rw [show ((⟨wx.heap.size, 0, none⟩ : Addr).add 0) = ⟨wx.heap.size, 0, none⟩ from by simp [Addr.add], block_cell (heap_alloc_new wx _)]
      simp [e]
    | 1, _ =>
      rw [show ((⟨wx.heap.size, 0, none⟩ : Addr).add 1) = ⟨wx.heap.size, 1, none⟩ from by simp [Addr.add], block_cell (heap_alloc_new wx _)]
      rfl)
  exact h

set_option maxRecDepth 100000 in
set_option maxHeartbeats 1000000 in
theorem rBatch_any (b : Nat) (A : List Al.St) (w : World) (hS : RSess w b A) (hA : Al.Good A) (hsm : A.length ≤ 24) :
    Calls Try.prog 51 #[.pointer (some ⟨b, 0, none⟩)] w fun e w' => e = .returned (.string (bs (batchP A))) ∧ Below w.heap.size w w' := by
  obtain ⟨v, hv, hr⟩ := hS.ex
  have hcv := cell_of_one hv
  have hlb := lt_of_block hv
  have HL2 := hid (fun wx (h : RdS wx v (A.map Al.txt)) => Least_ok A v Al.allF wx hA.1 h (by omega) (by decide))
  rw [bs_all] at HL2
  have HR := hid hr
  have HNA := hid (fun (k : Nat) wx (h : RdS wx v (A.map Al.txt)) => Named_any A v k wx h (by omega))
  have HBP : Hid (batchP A = batchTo A 12) := rfl
  clear hr hv hS
  go_enter Try.func51, Try.ntmps51
  go_wp2_with fail
  refine (HL2.out _ HR.out).mono ?_
  rintro e w1 ⟨g, T, rfl, ht1, hT1, hb1⟩
  have HT1 := hid ht1
  have HTT := hid hT1
  have HB1 := hid hb1
  have hgl1 := lt_of_block ht1
  clear ht1 hT1 hb1
  go_wp2_with fail
  go_loopw [4, 5] (fun s i wr => ∃ k : Nat, k ≤ 12 ∧ i = .int .i64 k ∧ s = .string (bs (batchTo A k)) ∧ Below w1.heap.size w1 wr) (fun _ i _ => 12 - (intOf i).toNat)
  case atStart => exact ⟨0, Nat.zero_le _, rfl, rfl, Below.refl _ _⟩
  case round =>
    obtain ⟨k, hk, rfl, rfl, hbel⟩ := hrel
    have hbw := HB1.out.trans (hbel.mono HB1.out.size)
    have hsz := hbel.size
    have hlen := batch_len A k
    by_cases hlt : k < 12
    · have HBS := hid (batch_succ A k)
      generalize batchTo A k = L at *
      have hc := cell_below hbw hcv hlb
      have hrr := HR.out.below hbw
      have hN := HNA.out k wr hrr
      cases e : namedP A k with
      | true =>
        rw [e] at hN
        have HN := hid hN
        have HR2 : Hid (batchTo A (k + 1) = L ++ itemP (Al.leastP A Al.allF) k) := by rw [Hid, HBS.out, if_pos e]
        have htw : Tab wr g T := by unfold Tab at *; rw [hbel.block g hgl1]; exact HT1.out
        have hS0 := Set_any g T k wr htw hlt
        rw [setOf_congr (HTT.out k)] at hS0
        have HS := hid hS0
        have hsl := setOf_len (Al.leastP A Al.allF) k
        have HIT : Hid (itemP (Al.leastP A Al.allF) k = [varByte k, 58] ++ setOf (Al.leastP A Al.allF) k ++ [59]) := rfl
        generalize setOf (Al.leastP A Al.allF) k = X at *
        have hcv2 := conv_two k hlt
        have hba := bs_app
        have h59 : ({ data := #[59] } : ByteArray) = bs [59] := rfl
        have z1 : (bs L).size = L.length := rfl
        have z2 : (bs [varByte k, 58]).size = 2 := rfl
        have z3 : (bs X).size = X.length := rfl
        have z4 : (bs [59]).size = 1 := rfl
        have z5 : ∀ l, (bs l).size = l.length := fun _ => rfl
        have HBL := hid hbel
        clear e hN hS0 htw hrr hbw hbel z1 z2 z3 z4
        go_wp2_with (first | (go_at_call 14; refine HN.out.mono ?_; rintro e w' ⟨rfl, rfl⟩))
        refine HS.out.mono ?_
        rintro e w3 ⟨rfl, hb3⟩
        have hB3 := HBL.out.trans (hb3.mono hsz)
        have hs3 := hB3.size
        clear hb3
        go_wp2_with fail
        exact ⟨⟨k + 1, by omega, by go_num, by rw [HR2.out, HIT.out]; simp, hB3.alloc hs3 _⟩, by simp [intOf]; omega⟩
      | false =>
        rw [e] at hN
        have HN := hid hN
        have HR2 : Hid (batchTo A (k + 1) = L) := by rw [Hid, HBS.out, if_neg (by rw [e]; simp)]; simp
        clear e hN hrr hbw
        go_wp2_with (go_at_call 14; refine HN.out.mono ?_; rintro e w' ⟨rfl, rfl⟩)
        go_roundw
        case rel => exact ⟨k + 1, by omega, by go_num, by rw [HR2.out], hbel⟩
        case measure => simp [intOf]; omega
    · have hk12 : k = 12 := by omega
      subst hk12
      go_wp2
      go_ret
      exact ⟨by rw [HBP.out]; rfl, hbw⟩
end Go.Proofs.Ytmjlcajcobbcgab
