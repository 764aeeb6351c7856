import Derived.Test.YtmjlcajcobbcgaaXe
import Derived.Test.YtmjlcajcobbcgaaXa
import Derived.Test.YtmjlcajcobbcgaaXi
import Derived.Test.YtmjlcajcobbcgaaXk
namespace Go.Proofs.Ytmjlcajcobbcgaa
open Go.RowKit

theorem bs_back (s : ByteArray) : bs s.data.toList = s := rfl
/-! A row's text; what the program's rows and the document's sets have in common. -/
def textR (r : Nat) : List UInt8 := ((List.range 12).filter fun o => r.testBit o).map siteB
theorem siteB_toNat {o : Nat} (h : o < 12) : (siteB o).toNat = 65 + o := by unfold siteB; simp; omega
theorem siteB_inj {a b : Nat} (ha : a < 12) (hb : b < 12) (h : siteB a = siteB b) : a = b := by
  have := congrArg UInt8.toNat h
  rw [siteB_toNat ha, siteB_toNat hb] at this; omega
theorem mem_setOf {T : Al.Tb} {v o : Nat} (ho : o < 12) : siteB o ∈ setOf T v ↔ T v o = true := by
  unfold setOf
  rw [List.mem_map]
  constructor
  · rintro ⟨a, ha, h⟩
    rw [List.mem_filter, List.mem_range] at ha
    rw [← siteB_inj ha.1 ho h]; exact ha.2
  · intro h
    exact ⟨o, by rw [List.mem_filter, List.mem_range]; exact ⟨ho, h⟩, rfl⟩
theorem setOf_inj {T S : Al.Tb} {v u : Nat} (h : setOf T v = setOf S u) (o : Nat) (ho : o < 12) : T v o = S u o := by
  rw [Bool.eq_iff_iff, ← mem_setOf ho, ← mem_setOf ho, h]
theorem setOf_tb {R : Al.Rw} {v : Nat} (hv : v < 12) : setOf (Al.tbOf R) v = textR (R v) := by
  unfold setOf textR Al.tbOf; simp [hv]
theorem textR_inj {a b : Nat} (ha : a < 4096) (hb : b < 4096) (h : textR a = textR b) : a = b := by
  apply Nat.eq_of_testBit_eq
  intro o
  have h2 := fun (ho : o < 12) => setOf_inj (T := fun _ p => a.testBit p) (S := fun _ p => b.testBit p) (v := 0) (u := 0) h o ho
  cases e1 : a.testBit o with
  | true => rw [← h2 (Al.bit_lt ha e1)]; exact e1.symm
  | false =>
    cases e2 : b.testBit o with
    | false => rfl
    | true => rw [h2 (Al.bit_lt hb e2)] at e1; rw [e1] at e2; cases e2
theorem textR_beq {a b : Nat} (ha : a < 4096) (hb : b < 4096) : (textR a == textR b) = ((a : Int) == (b : Int)) := by
  rw [Bool.eq_iff_iff, beq_iff_eq, beq_iff_eq]
  exact ⟨fun h => by rw [textR_inj ha hb h], fun h => by rw [show a = b from by omega]⟩
theorem text_succ (r k : Nat) : ((List.range (k + 1)).filter fun o => r.testBit o).map siteB = ((List.range k).filter fun o => r.testBit o).map siteB ++ (if r.testBit k = true then [siteB k] else []) := by
  rw [List.range_succ, List.filter_append, List.map_append]
  by_cases h : r.testBit k = true
  · simp [h]
  · simp [h]

theorem and_only {r k : Nat} : (r &&& 2 ^ k != 0) = r.testBit k := by
  rw [Bool.eq_iff_iff, bne_iff_ne]
  constructor
  · intro h
    obtain ⟨o, ho⟩ := Nat.exists_testBit_of_ne_zero h
    rw [Nat.testBit_and, Nat.testBit_two_pow, Bool.and_eq_true, decide_eq_true_eq] at ho
    rw [ho.2]; exact ho.1
  · intro h e
    have := congrArg (fun n => n.testBit k) e
    simp [Nat.testBit_and, h] at this

/-- What the program's list names, and the document's. -/
theorem named_eq {A : List Al.St} (hA : ∀ s ∈ A, Al.Wf s) {c : UInt8} (hc : Al.vB c.toNat = true) : namedP A (Al.vi c) = A.any fun s => s.2.1 == c || s.2.2.1 == c := by
  unfold namedP
  have key : ∀ d : UInt8, nm (Al.vi c) d = (Al.vB d.toNat && (d == c)) := by
    intro d
    have h1 := v_bd hc
    rw [Bool.eq_iff_iff]
    simp only [nm, Bool.and_eq_true, beq_iff_eq]
    constructor
    · rintro ⟨h2, h3⟩
      refine ⟨h2, ?_⟩
      have h4 := v_bd h2
      unfold Al.vi at h3
      exact UInt8.toNat_inj.1 (by omega)
    · rintro ⟨h2, rfl⟩; exact ⟨h2, rfl⟩
  have key2 : ∀ s ∈ A, (Al.txt s).any (nm (Al.vi c)) = (s.2.1 == c || s.2.2.1 == c) := by
    intro s hs
    have no : ∀ d : UInt8, Al.vB d.toNat = false → (Al.vB d.toNat && (d == c)) = false := fun d h => by rw [h]; rfl
    have ney : ∀ d : UInt8, Al.vB d.toNat = false → (d == c) = false := fun d h => by
      rw [beq_eq_false_iff_ne]; rintro rfl; rw [hc] at h; cases h
    rcases wf_cases (hA s hs) with ⟨x, o, rfl, h0, h1⟩ | ⟨x, y, rfl, h0, h1⟩ | ⟨x, y, f, rfl, h0, h1, h2⟩ | ⟨x, y, f, rfl, h0, h1, h2⟩
    · have ho : Al.vB o.toNat = false := by have := o_bd h1; simp [Al.vB]; omega
      rw [txt0]
      simp only [List.any_cons, List.any_nil, key, h0, ho, Bool.true_and, Bool.false_and, Bool.or_false, show Al.vB (61 : UInt8).toNat = false from by decide, show Al.vB (64 : UInt8).toNat = false from by decide, show Al.vB (59 : UInt8).toNat = false from by decide, ney 0 (by decide)]
    · rw [txt1]
      simp only [List.any_cons, List.any_nil, key, h0, h1, Bool.true_and, Bool.false_and, Bool.or_false, Bool.false_or, show Al.vB (61 : UInt8).toNat = false from by decide, show Al.vB (59 : UInt8).toNat = false from by decide]
    · have hf : Al.vB f.toNat = false := by have := f_bd h2; simp [Al.vB]; omega
      rw [txt2]
      simp only [List.any_cons, List.any_nil, key, h0, h1, hf, Bool.true_and, Bool.false_and, Bool.or_false, Bool.false_or, show Al.vB (61 : UInt8).toNat = false from by decide, show Al.vB (46 : UInt8).toNat = false from by decide, show Al.vB (59 : UInt8).toNat = false from by decide]
    · have hf : Al.vB f.toNat = false := by have := f_bd h2; simp [Al.vB]; omega
      rw [txt3]
      simp only [List.any_cons, List.any_nil, key, h0, h1, hf, Bool.true_and, Bool.false_and, Bool.or_false, Bool.false_or, show Al.vB (61 : UInt8).toNat = false from by decide, show Al.vB (46 : UInt8).toNat = false from by decide, show Al.vB (59 : UInt8).toNat = false from by decide]
  rw [Bool.eq_iff_iff, List.any_eq_true, List.any_eq_true]
  constructor
  · rintro ⟨s, hs, h⟩; exact ⟨s, hs, by rw [← key2 s hs]; exact h⟩
  · rintro ⟨s, hs, h⟩; exact ⟨s, hs, by rw [key2 s hs]; exact h⟩

/-- A text of fields has six at most. -/
theorem fieldOk_at {f : List UInt8} (h : fieldOk f = true) : ∀ i, i < f.length → okAt f i = true := by
  unfold fieldOk at h
  rw [List.all_eq_true] at h
  exact fun i hi => h i (by simpa using hi)
theorem fieldOk_ge {f : List UInt8} (h : fieldOk f = true) : ∀ i, i < f.length → 48 + i ≤ Al.bt f i ∧ Al.bt f i ≤ 53
  | 0, hi => by
    have := fieldOk_at h 0 hi
    simp [okAt, Al.fB] at this
    omega
  | i + 1, hi => by
    have h1 := fieldOk_ge h i (by omega)
    have := fieldOk_at h (i + 1) hi
    simp [okAt, Al.fB] at this
    omega
theorem fieldOk_len {f : List UInt8} (h : fieldOk f = true) : f.length ≤ 6 := by
  rcases Nat.lt_or_ge 6 f.length with h1 | h1
  · have := fieldOk_ge h 6 h1; omega
  · exact h1
end Go.Proofs.Ytmjlcajcobbcgaa

namespace Go.Proofs.Ytmjlcajcobbcgaa
open Go.RowKit

def textTo (r k : Nat) : List UInt8 := ((List.range k).filter fun o => r.testBit o).map siteB
theorem textTo_len (r k : Nat) : (textTo r k).length ≤ k := by
  unfold textTo
  rw [List.length_map]; have := List.length_filter_le (fun o => r.testBit o) (List.range k); simpa using this

set_option maxRecDepth 100000 in
set_option maxHeartbeats 1000000 in
theorem sitesText_any (r : Nat) (w : World) (hr : r < 4096) :
    Calls Try.prog 46 #[.int .i64 r] w fun e w' => e = .returned (.string (bs (textR r))) ∧ Below w.heap.size w w' := by
  obtain ⟨i0, hi, hz0, hz1, hz2⟩ := info_parts Try.info5
  have HON := hid (fun (q : Nat) (hq : q ≤ 255) wx => only_any q wx hq)
  have HTR : Hid (textR r = textTo r 12) := rfl
  go_enter Try.func46, Try.ntmps46
  go_wp2_with fail
  go_loopw [3, 4] (fun v i wr => ∃ k : Nat, k ≤ 12 ∧ i = .int .u8 ((65 + k : Nat) : Int) ∧ wr.ownsRow w.heap.size 5 1 v (textTo r k).length ((textTo r k).map bv) ∧ Below w.heap.size w wr) (fun _ i _ => 77 - (intOf i).toNat)
  case atStart => exact ⟨0, by omega, rfl, World.ownsRow_nil _ _ _ _, Below.refl _ _⟩
  case round =>
    obtain ⟨k, hk, rfl, hown, hbel⟩ := hrel
    have hsz := hbel.size
    have hlen := textTo_len r k
    by_cases hlt : k < 12
    · have HTS : Hid (textTo r (k + 1) = textTo r k ++ (if r.testBit k = true then [siteB k] else [])) := text_succ r k
      have honl : Al.onlyR (65 + k) = 2 ^ k := by unfold Al.onlyR; rw [if_pos ⟨by omega, by omega⟩]; congr 1; omega
      have hand : bits .and .i64 (r : Int) ((2 ^ k : Nat) : Int) = ((r &&& 2 ^ k : Nat) : Int) := and_i64 hr (by rw [← honl]; exact Al.onlyR_ok _)
      have HO1 := hid (fun wx => HON.out (65 + k) (by omega) wx)
      rw [honl] at HO1
      have hq : 65 + k ≤ 76 := by omega
      have hcb := cast_bne (r &&& 2 ^ k)
      rw [and_only] at hcb
      have HSB : Hid (bv (siteB k) = .int .u8 (65 + (k : Int))) := by unfold Hid bv; rw [siteB_toNat hlt]; rfl
      generalize textTo r k = L at *
      generalize 2 ^ k = P2 at *
      cases hb : r.testBit k with
      | true =>
        rw [if_pos hb] at HTS
        rw [hb] at hcb
        clear hb honl
        go_wp2_with (first | (go_at_call 80; refine (HO1.out _).mono ?_; rintro e w' ⟨rfl, rfl⟩) | (at_builtin; refine append_new (w0 := w) rfl (.tmp 14) (.tmp 16) 67 rfl w.heap.size 5 i0 (.int .u8 0) 1 1 Try.underlying67 hi hz0 hz1 hz2 rfl (by decide) _ L.length (L.map bv) rfl hown #[.int .u8 (65 + (k : Int))] rfl (by simp [Value.oneCell']) rfl (by omega) (by decide) hsz hbel ?_; intro v3 w3 hown3 hbel4))
        go_roundw
        case rel => exact ⟨k + 1, by omega, by go_num, by rw [HTS.out, List.map_append, List.length_append]; simp only [List.map_cons, List.map_nil, List.length_cons, List.length_nil, HSB.out]; exact hown3, hbel4⟩
        case measure => simp [intOf]; omega
      | false =>
        rw [if_neg (by rw [hb]; simp), List.append_nil] at HTS
        rw [hb] at hcb
        clear hb honl
        go_wp2_with (go_at_call 80; refine (HO1.out _).mono ?_; rintro e w' ⟨rfl, rfl⟩)
        go_roundw
        case rel => exact ⟨k + 1, by omega, by go_num, by rw [HTS.out]; exact hown, hbel⟩
        case measure => simp [intOf]; omega
    · have hk12 : k = 12 := by omega
      subst hk12
      have hcv := convert_any hown
      clear hown
      go_wp2
      go_ret
      exact ⟨by rw [HTR.out]; rfl, hbel⟩
end Go.Proofs.Ytmjlcajcobbcgaa

namespace Go.Proofs.Ytmjlcajcobbcgaa
open Go.RowKit

theorem bt_lt (l : List UInt8) (i : Nat) : Al.bt l i ≤ 255 := by
  unfold Al.bt; have := (l.getD i 0).toNat_lt; omega

set_option maxRecDepth 100000 in
set_option maxHeartbeats 1000000 in
theorem isFields_any (f : List UInt8) (w : World) (hl : f.length ≤ 9223372036854775807) :
    Calls Try.prog 51 #[.string (bs f)] w fun e w' => e = .returned (.bool (fieldOk f)) ∧ ∃ n, w' = w.drewN n := by
  have hsz : (bs f).size = f.length := rfl
  by_cases h6 : f.length ≤ 6
  · have hd6 : decide ((6 : Int) < (f.length : Int)) = false := by simp; omega
    go_enter Try.func51, Try.ntmps51
    go_wp2
    go_loopw [3] (fun i wr => ∃ k : Nat, k ≤ f.length ∧ i = .int .i64 k ∧ (List.range k).all (okAt f) = true ∧ ∃ n, wr = w.drewN n) (fun i _ => f.length - (intOf i).toNat)
    case atStart => exact ⟨0, Nat.zero_le _, rfl, rfl, 0, rfl⟩
    case round =>
      obtain ⟨k, hk, rfl, hok, n, hwr⟩ := hrel
      have HOK := hid hok
      have HW := hid hwr
      clear hok hwr
      by_cases hlt : k < f.length
      · have hi := ix f k k (Al.bt f k : Nat) rfl (by simp [Al.bt, List.getElem?_eq_getElem hlt])
        have HAS := hid (all_range_succ (okAt f) k)
        have HFN := hid (fieldOk_no (f := f) hlt)
        have hbl := bt_le f k
        have hft : ∀ wx, Calls Try.prog 79 #[.int .u8 102, .int .u8 (Al.bt f k : Nat)] wx fun e w' => e = .returned (.bool (Al.fB (Al.bt f k))) ∧ w' = wx := fun wx => fits_any 102 (Al.bt f k) wx
        cases hf : Al.fB (Al.bt f k) with
        | true =>
          rw [hf] at hft
          have HFT := hid hft
          clear hft
          by_cases hk0 : k = 0
          · subst hk0
            have HO : Hid (okAt f 0 = true) := by simp [Hid, okAt, hf]
            have hi0 := ix f 0 0 (Al.bt f 0 : Nat) rfl (by simp [Al.bt, List.getElem?_eq_getElem hlt])
            clear hf
            go_wp2_with (go_at_call 79; refine (HFT.out _).mono ?_; rintro e w' ⟨rfl, rfl⟩)
            go_quiet (fail)
            go_wp2_with fail
            go_roundw
            case rel => exact ⟨0 + 1, by omega, by go_num, by rw [HAS.out, HOK.out, HO.out]; rfl, drew_more HW _⟩
            case measure => simp [intOf]; omega
          · have hkp : (0 : Int) < (k : Int) := by omega
            have hdk : decide (0 < k) = true := by simp; omega
            have hi2 := ix f (k - 1) ((k : Int) - 1) (Al.bt f (k - 1) : Nat) (by omega) (by simp [Al.bt, List.getElem?_eq_getElem (show k - 1 < f.length by omega)])
            have hwp : IntKind.i64.wrap ((k : Int) - 1) = (k : Int) - 1 := IntWalk.i64_in _ ⟨by omega, by omega⟩
            by_cases hlo : Al.bt f (k - 1) < Al.bt f k
            · have HO : Hid (okAt f k = true) := by simp [Hid, okAt, hf, hlo]
              have hd2 : decide ((Al.bt f k : Int) ≤ (Al.bt f (k - 1) : Int)) = false := by simp; omega
              clear hf
              generalize Al.bt f k = b1 at *
              generalize Al.bt f (k - 1) = b0 at *
              go_wp2_with (go_at_call 79; refine (HFT.out _).mono ?_; rintro e w' ⟨rfl, rfl⟩)
              go_quiet (fail)
              go_wp2_with fail
              go_roundw
              case rel => exact ⟨k + 1, by omega, by go_num, by rw [HAS.out, HOK.out, HO.out]; rfl, drew_more HW _⟩
              case measure => simp [intOf]; omega
            · have HO : Hid (fieldOk f = false) := HFN.out (by simp [okAt, hf, hk0]; omega)
              have hd2 : (Al.bt f k : Int) ≤ (Al.bt f (k - 1) : Int) := by omega
              clear hf
              generalize Al.bt f k = b1 at *
              generalize Al.bt f (k - 1) = b0 at *
              go_wp2_with (go_at_call 79; refine (HFT.out _).mono ?_; rintro e w' ⟨rfl, rfl⟩)
              go_quiet (fail)
              go_wp2_with fail
              go_ret
              exact ⟨by rw [HO.out]; rfl, drew_more HW _⟩
        | false =>
          rw [hf] at hft
          have HFT := hid hft
          clear hft
          have HO : Hid (fieldOk f = false) := HFN.out (by simp [okAt, hf])
          clear hf
          go_wp2_with (go_at_call 79; refine (HFT.out _).mono ?_; rintro e w' ⟨rfl, rfl⟩)
          go_ret
          exact ⟨by rw [HO.out]; rfl, n, HW.out⟩
      · have HO : Hid (fieldOk f = true) := by have := HOK.out; rw [show k = f.length from by omega] at this; exact this
        go_wp2
        go_ret
        exact ⟨by rw [HO.out]; rfl, n, HW.out⟩
  · have hF : fieldOk f = false := Bool.eq_false_iff.2 fun e => h6 (fieldOk_len e)
    have HF := hid hF
    clear hF
    go_enter Try.func51, Try.ntmps51
    go_wp2
    go_ret
    exact ⟨by rw [HF.out]; rfl, 0, rfl⟩

def namesP (A : List Al.St) (c : UInt8) : Bool := A.any fun s => s.2.1 == c || s.2.2.1 == c
set_option maxRecDepth 100000 in
set_option maxHeartbeats 1000000 in
theorem names_some (A : List Al.St) (c : UInt8) (g cap : Nat) (w : World) (hg : g < w.heap.size)
    (hc : ∀ k (h : k < A.length), w.cell? ⟨g, k * 5, none⟩ = some (.int .i64 (A[k].1 : Nat)) ∧ w.cell? ⟨g, k * 5 + 1, none⟩ = some (.int .u8 (A[k].2.1.toNat : Nat)) ∧ w.cell? ⟨g, k * 5 + 2, none⟩ = some (.int .u8 (A[k].2.2.1.toNat : Nat)) ∧
        w.cell? ⟨g, k * 5 + 3, none⟩ = some (.int .u8 (A[k].2.2.2.1.toNat : Nat)) ∧ w.cell? ⟨g, k * 5 + 4, none⟩ = some (.int .u8 (A[k].2.2.2.2.toNat : Nat)))
    (hs : A.length ≤ 100000) :
    Calls Try.prog 44 #[.slice (some ⟨g, 0, none⟩) A.length cap, .int .u8 (c.toNat : Nat)] w fun e w' => e = .returned (.bool (Al.vB c.toNat && namesP A c)) ∧ Below w.heap.size w w' := by
  have HC := hid hc
  have hft : ∀ wx, Calls Try.prog 79 #[.int .u8 120, .int .u8 (c.toNat : Nat)] wx fun e w' => e = .returned (.bool (Al.vB c.toNat)) ∧ w' = wx := fun wx => fits_any 120 c.toNat wx
  clear hc
  cases hv : Al.vB c.toNat with
  | false =>
    rw [hv] at hft
    have HFT := hid hft
    clear hft hv
    go_enter Try.func44, Try.ntmps44
    go_wp2_with (go_at_call 79; refine (HFT.out _).mono ?_; rintro e w' ⟨rfl, rfl⟩)
    go_ret
    exact ⟨rfl, Below.refl _ _⟩
  | true =>
    rw [hv] at hft
    have HFT := hid hft
    clear hft hv
    go_enter Try.func44, Try.ntmps44
    go_wp2_with (go_at_call 79; refine (HFT.out _).mono ?_; rintro e w' ⟨rfl, rfl⟩)
    go_loopw [12] (fun i wr => ∃ k : Nat, k ≤ A.length ∧ i = .int .i64 k ∧ namesP (A.take k) c = false ∧ Below w'.heap.size w' wr) (fun i _ => A.length - (intOf i).toNat)
    case atStart => exact ⟨0, Nat.zero_le _, rfl, rfl, Below.refl _ _⟩
    case round =>
      obtain ⟨k, hk, rfl, hn, hbel⟩ := hrel
      have HN := hid hn
      have hsz := hbel.size
      clear hn
      by_cases hlt : k < A.length
      · have HNS : Hid (namesP (A.take (k + 1)) c = (namesP (A.take k) c || (A[k].2.1 == c || A[k].2.2.1 == c))) := any_take _ hlt
        have HNH : Hid ((A[k].2.1 == c || A[k].2.2.1 == c) = true → namesP A c = true) := fun h => any_hit (p := fun s : Al.St => s.2.1 == c || s.2.2.1 == c) hlt h
        obtain ⟨c0, c1, c2, c3, c4⟩ := HC.out k hlt
        generalize A[k] = a at *
        obtain ⟨ak, ax, ay, ao, af⟩ := a
        have d0 := cell_below hbel c0 hg
        have d1 := cell_below hbel c1 hg
        have d2 := cell_below hbel c2 hg
        have d3 := cell_below hbel c3 hg
        have d4 := cell_below hbel c4 hg
        simp only at d0 d1 d2 d3 d4 HNS HNH
        have HB2 := hid (fun C => hbel.alloc hsz C)
        clear c0 c1 c2 c3 c4 hbel
        by_cases e1 : ax = c
        · subst e1
          have HT : Hid (namesP A ax = true) := HNH.out (by simp)
          go_wp2_with fail
          go_ret
          exact ⟨by rw [HT.out]; rfl, HB2.out _⟩
        · have b1 : ((ax.toNat : Int) == (c.toNat : Int)) = false := beq_eq_false_iff_ne.2 (fun h => e1 (UInt8.toNat_inj.1 (by omega)))
          by_cases e2 : ay = c
          · subst e2
            have HT : Hid (namesP A ay = true) := HNH.out (by simp)
            clear e1
            go_wp2_with fail
            go_ret
            exact ⟨by rw [HT.out]; rfl, HB2.out _⟩
          · have b2 : ((ay.toNat : Int) == (c.toNat : Int)) = false := beq_eq_false_iff_ne.2 (fun h => e2 (UInt8.toNat_inj.1 (by omega)))
            have HT : Hid (namesP (A.take (k + 1)) c = false) := by rw [Hid, HNS.out, HN.out]; simp [e1, e2]
            clear e1 e2
            go_wp2_with fail
            go_roundw
            case rel => exact ⟨k + 1, by omega, by go_num, HT.out, HB2.out _⟩
            case measure => simp [intOf]; omega
      · have HT : Hid (namesP A c = false) := by have := HN.out; rw [List.take_of_length_le (by omega)] at this; exact this
        go_wp2
        go_ret
        exact ⟨by rw [HT.out]; rfl, hbel⟩
set_option maxRecDepth 100000 in
set_option maxHeartbeats 1000000 in
theorem names_nil (c : UInt8) (w : World) : Calls Try.prog 44 #[.slice none 0 0, .int .u8 (c.toNat : Nat)] w fun e w' => e = .returned (.bool (Al.vB c.toNat && namesP [] c)) ∧ Below w.heap.size w w' := by
  have hft : ∀ wx, Calls Try.prog 79 #[.int .u8 120, .int .u8 (c.toNat : Nat)] wx fun e w' => e = .returned (.bool (Al.vB c.toNat)) ∧ w' = wx := fun wx => fits_any 120 c.toNat wx
  cases hv : Al.vB c.toNat with
  | false =>
    rw [hv] at hft
    have HFT := hid hft
    clear hft hv
    go_enter Try.func44, Try.ntmps44
    go_wp2_with (go_at_call 79; refine (HFT.out _).mono ?_; rintro e w' ⟨rfl, rfl⟩)
    go_ret
    exact ⟨rfl, Below.refl _ _⟩
  | true =>
    rw [hv] at hft
    have HFT := hid hft
    clear hft hv
    go_enter Try.func44, Try.ntmps44
    go_wp2_with (go_at_call 79; refine (HFT.out _).mono ?_; rintro e w' ⟨rfl, rfl⟩)
    refine wp_loop_rounds 1 ?_
    rw [rounds_succ]
    go_wp2_with fail
    go_ret
    exact ⟨rfl, Below.refl _ _⟩
theorem names_any (A : List Al.St) (c : UInt8) (v : Value) (w : World) (hA : ∀ s ∈ A, Al.Wf s) (hr : RdA w v A) (hs : A.length ≤ 100000) :
    Calls Try.prog 44 #[v, .int .u8 (c.toNat : Nat)] w fun e w' => e = .returned (.bool (Al.vB c.toNat && namedP A (Al.vi c))) ∧ Below w.heap.size w w' := by
  have h : Calls Try.prog 44 #[v, .int .u8 (c.toNat : Nat)] w fun e w' => e = .returned (.bool (Al.vB c.toNat && namesP A c)) ∧ Below w.heap.size w w' := by
    rcases hr.shape with ⟨rfl, rfl⟩ | ⟨g, cap, rfl, hl, hm, hg, hc⟩
    · exact names_nil c w
    · exact names_some A c g cap w hg hc hs
  refine h.mono ?_
  rintro e w' ⟨rfl, hb⟩
  refine ⟨?_, hb⟩
  cases hv : Al.vB c.toNat with
  | false => rfl
  | true => rw [named_eq hA hv]; rfl

/-- The byte that readName answers. -/
def nameB : List UInt8 → UInt8
  | [c] => c
  | _ => 0
theorem varN_name {A : List Al.St} {l : List UInt8} (h : 0 ≤ varN A l) : varN A l = (Al.vi (nameB l) : Nat) ∧ Al.vB (nameB l).toNat = true := by
  match l with
  | [] => exact absurd h (by show ¬ (0 : Int) ≤ -1; decide)
  | [c] =>
    rw [varN_one] at h ⊢
    split
    · rename_i h1; exact ⟨rfl, h1.1⟩
    · rename_i h1; rw [if_neg h1] at h; exact absurd h (by decide)
  | _ :: _ :: _ => exact absurd h (by show ¬ (0 : Int) ≤ -1; decide)
set_option maxHeartbeats 1000000 in
theorem readName_any (A : List Al.St) (l : List UInt8) (v : Value) (w : World) (hA : ∀ s ∈ A, Al.Wf s) (hr : RdA w v A) (hs : A.length ≤ 100000) :
    Calls Try.prog 50 #[v, .string (bs l)] w fun e w' => e = .returned (.tuple #[.int .u8 ((nameB l).toNat : Nat), .bool (decide (0 ≤ varN A l))]) ∧ Below w.heap.size w w' := by
  have hsz : (bs l).size = l.length := rfl
  by_cases h1 : l.length = 1
  · obtain ⟨c, rfl⟩ : ∃ c, l = [c] := by
      match l, h1 with
      | [c], _ => exact ⟨c, rfl⟩
    have hi := ix [c] 0 0 c.toNat rfl rfl
    have hs1 : (bs [c]).size = 1 := rfl
    have HN := hid (names_any A c v w hA hr hs)
    have HF : Hid (decide (0 ≤ varN A [c]) = (Al.vB c.toNat && namedP A (Al.vi c))) := by
      rw [Hid, varN_one, Bool.eq_iff_iff, decide_eq_true_eq, Bool.and_eq_true]
      constructor
      · intro h
        split at h
        · assumption
        · omega
      · intro h; rw [if_pos h]; omega
    have HB : Hid (nameB [c] = c) := rfl
    generalize nameB [c] = nb at *
    generalize (Al.vB c.toNat && namedP A (Al.vi c)) = B at *
    clear h1 hsz
    go_enter Try.func50, Try.ntmps50
    go_wp2_with (go_at_call 44; refine HN.out.mono ?_; rintro e w' ⟨rfl, hb⟩)
    go_ret2
    exact ⟨by rw [HF.out, HB.out]; rfl, hb⟩
  · have HF : Hid (varN A l = -1) := varN_len h1
    have HB : Hid (nameB l = 0) := by
      match l with
      | [] => rfl
      | [_] => simp at h1
      | _ :: _ :: _ => rfl
    have hb : ((l.length : Int) != 1) = true := by simp; omega
    go_enter Try.func50, Try.ntmps50
    go_wp2
    go_ret2
    exact ⟨by rw [HF.out, HB.out]; rfl, Below.refl _ _⟩
end Go.Proofs.Ytmjlcajcobbcgaa
