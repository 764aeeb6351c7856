import Derived.Test.YtmjlcajcobbcgabXc
import Derived.Test.YtmjlcajcobbcgabXa
import Derived.Deep.RegionHeld3
import Derived.Laws.IdiomStrings
namespace Go.Proofs.Ytmjlcajcobbcgab
open Go.RowKit

set_option maxHeartbeats 400000 in
theorem shapeOf_any (k : Nat) (w : World) :
    Calls Try.prog 83 #[.int .i64 k] w fun e w' => e = .returned (.string (bs (Al.shp k))) ∧ w' = w := by
  by_cases h0 : k = 0
  · subst h0
    go_enter Try.func83, Try.ntmps83
    go_wp2
    go_ret
    exact ⟨rfl, rfl⟩
  by_cases h1 : k = 1
  · subst h1
    go_enter Try.func83, Try.ntmps83
    go_wp2
    go_ret
    exact ⟨rfl, rfl⟩
  by_cases h2 : k = 2
  · subst h2
    go_enter Try.func83, Try.ntmps83
    go_wp2
    go_ret
    exact ⟨rfl, rfl⟩
  have HF : Hid (Al.shp k = [120, 46, 102, 61, 121, 59]) := by rw [Hid, Al.shp, if_neg h0, if_neg h1, if_neg h2]
  go_enter Try.func83, Try.ntmps83
  go_wp2
  go_ret
  exact ⟨by rw [HF.out]; rfl, rfl⟩

/-- Three tests alike: does b lie between two bytes? -/
theorem fitB_x (b : Nat) : Al.fitB 120 b = Al.vB b := rfl
theorem fitB_y (b : Nat) : Al.fitB 121 b = Al.vB b := rfl
theorem fitB_o (b : Nat) : Al.fitB 111 b = Al.oB b := rfl
theorem fitB_f (b : Nat) : Al.fitB 102 b = Al.fB b := rfl
theorem fitB_else (m b : Nat) (h1 : m ≠ 120) (h2 : m ≠ 121) (h3 : m ≠ 111) (h4 : m ≠ 102) : Al.fitB m b = (b == m) := by
  unfold Al.fitB; rw [if_neg (by omega), if_neg h3, if_neg h4]

set_option maxHeartbeats 1000000 in
theorem fits_any (m b : Nat) (w : World) : Calls Try.prog 67 #[.int .u8 m, .int .u8 b] w fun e w' => e = .returned (.bool (Al.fitB m b)) ∧ w' = w := by
  by_cases h1 : m = 120 ∨ m = 121
  · have HF : Hid (Al.fitB m b = Al.vB b) := by rcases h1 with rfl | rfl <;> rfl
    by_cases a1 : 97 ≤ b
    · by_cases a2 : b ≤ 108
      · have HV : Hid (Al.vB b = true) := by simp [Hid, Al.vB, a1, a2]
        rcases h1 with rfl | rfl <;>
        · go_enter Try.func67, Try.ntmps67
          go_wp2
          go_ret
          exact ⟨by rw [HF.out, HV.out]; first | rfl | (simp; omega), rfl⟩
      · have HV : Hid (Al.vB b = false) := by simp [Hid, Al.vB, a2]
        rcases h1 with rfl | rfl <;>
        · go_enter Try.func67, Try.ntmps67
          go_wp2
          go_ret
          exact ⟨by rw [HF.out, HV.out]; first | rfl | (simp; omega), rfl⟩
    · have HV : Hid (Al.vB b = false) := by simp [Hid, Al.vB, a1]
      have hd : decide ((97 : Int) ≤ (b : Int)) = false := by simp; omega
      rcases h1 with rfl | rfl <;>
      · go_enter Try.func67, Try.ntmps67
        go_wp2
        go_ret
        exact ⟨by rw [HF.out, HV.out]; first | rfl | (simp; omega), rfl⟩
  by_cases h3 : m = 111
  · subst h3
    by_cases a1 : 65 ≤ b
    · by_cases a2 : b ≤ 76
      · have HV : Hid (Al.oB b = true) := by simp [Hid, Al.oB, a1, a2]
        go_enter Try.func67, Try.ntmps67
        go_wp2
        go_ret
        exact ⟨by rw [fitB_o, HV.out]; first | rfl | (simp; omega), rfl⟩
      · have HV : Hid (Al.oB b = false) := by simp [Hid, Al.oB, a2]
        go_enter Try.func67, Try.ntmps67
        go_wp2
        go_ret
        exact ⟨by rw [fitB_o, HV.out]; first | rfl | (simp; omega), rfl⟩
    · have HV : Hid (Al.oB b = false) := by simp [Hid, Al.oB, a1]
      have hd : decide ((65 : Int) ≤ (b : Int)) = false := by simp; omega
      go_enter Try.func67, Try.ntmps67
      go_wp2
      go_ret
      exact ⟨by rw [fitB_o, HV.out]; first | rfl | (simp; omega), rfl⟩
  by_cases h4 : m = 102
  · subst h4
    by_cases a1 : 48 ≤ b
    · by_cases a2 : b ≤ 53
      · have HV : Hid (Al.fB b = true) := by simp [Hid, Al.fB, a1, a2]
        go_enter Try.func67, Try.ntmps67
        go_wp2
        go_ret
        exact ⟨by rw [fitB_f, HV.out]; first | rfl | (simp; omega), rfl⟩
      · have HV : Hid (Al.fB b = false) := by simp [Hid, Al.fB, a2]
        go_enter Try.func67, Try.ntmps67
        go_wp2
        go_ret
        exact ⟨by rw [fitB_f, HV.out]; first | rfl | (simp; omega), rfl⟩
    · have HV : Hid (Al.fB b = false) := by simp [Hid, Al.fB, a1]
      have hd : decide ((48 : Int) ≤ (b : Int)) = false := by simp; omega
      go_enter Try.func67, Try.ntmps67
      go_wp2
      go_ret
      exact ⟨by rw [fitB_f, HV.out]; first | rfl | (simp; omega), rfl⟩
  have HF : Hid (Al.fitB m b = (b == m)) := fitB_else m b (by omega) (by omega) h3 h4
  by_cases e : b = m
  · subst e
    go_enter Try.func67, Try.ntmps67
    go_wp2
    go_ret
    exact ⟨by rw [HF.out]; simp, rfl⟩
  · have hne : ((b : Int) == (m : Int)) = false := beq_eq_false_iff_ne.2 (by omega)
    have h1a : m ≠ 120 := by omega
    have h1b : m ≠ 121 := by omega
    go_enter Try.func67, Try.ntmps67
    go_wp2
    go_ret
    exact ⟨by rw [HF.out]; simp [e], rfl⟩

theorem index_sum (s : ByteArray) (i k : Nat) (h : i + k < s.size) (wx : World) : (Instr.index 9 (.string s) (.int .i64 ((i : Int) + (k : Int)))).run Try.prog wx = .ok (.int .u8 s[i + k].toNat) wx := by
  have e : ((i : Int) + (k : Int)).toNat = i + k := by omega
  rw [run_index_string (P := Try.prog) wx 9 s .i64 _ Try.underlying9, dif_pos ⟨by omega, by omega⟩]
  simp [e]
theorem fitN_step {m b : UInt8} {ms u : List UInt8} (h : Al.fitB m.toNat b.toNat = true) : Al.fitN (m :: ms) (b :: u) = Al.fitN ms u + 1 := by simp [Al.fitN, h]
theorem fitN_stop {m b : UInt8} {ms u : List UInt8} (h : Al.fitB m.toNat b.toNat = false) : Al.fitN (m :: ms) (b :: u) = 0 := by simp [Al.fitN, h]
theorem fitN_right (ms : List UInt8) : Al.fitN ms [] = 0 := by cases ms <;> simp [Al.fitN]

set_option maxHeartbeats 1000000 in
theorem fitting_any (q s : ByteArray) (i : Nat) (w : World) (hq : q.size ≤ 1000) (hi : i ≤ 1000000) :
    Calls Try.prog 97 #[.string q, .string s, .int .i64 i] w fun e w' => e = .returned (.int .i64 (Al.fitN q.data.toList (s.data.toList.drop i) : Nat)) ∧ ∃ n, w' = w.drewN n := by
  go_enter Try.func97, Try.ntmps97
  go_wp2
  go_loopw [7] (fun i7 wr => ∃ k : Nat, k ≤ q.size ∧ i7 = .int .i64 k ∧ Al.fitN q.data.toList (s.data.toList.drop i) = k + Al.fitN (q.data.toList.drop k) (s.data.toList.drop (i + k)) ∧ ∃ n, wr = w.drewN n) (fun i7 _ => q.size - (intOf i7).toNat)
  case atStart => exact ⟨0, Nat.zero_le _, rfl, by simp, 0, rfl⟩
  case round =>
    obtain ⟨k, hk, rfl, hf, n, hwr⟩ := hrel
    have HF := hid hf
    have HW := hid hwr
    clear hf hwr
    by_cases l1 : k < q.size
    · by_cases l2 : i + k < s.size
      · have hcast : ((i : Int) + (k : Int)) < (s.size : Int) := by omega
        have hwr : IntKind.i64.wrap ((i : Int) + (k : Int)) = (i : Int) + (k : Int) := IntWalk.i64_in _ ⟨by omega, by omega⟩
        have hix := index_sum s i k l2
        cases hb : Al.fitB q[k].toNat s[i + k].toNat with
        | true =>
          have HB := hid hb
          clear hb
          have hft := fits_any q[k].toNat s[i + k].toNat
          rw [HB.out] at hft
          have HFT := hid hft
          clear hft
          go_wp2_with fail
          go_quiet ((go_at_call 67; exact Calls.quiet_of_same (HFT.out _)))
          go_wp2_with fail
          go_roundw
          case rel => exact ⟨k + 1, by omega, by go_num, by rw [HF.out, drop_cons q k l1, drop_cons s (i + k) l2, fitN_step HB.out, Nat.add_assoc i k 1]; omega, drew_more HW _⟩
          case measure => simp [intOf]; omega
        | false =>
          have HB := hid hb
          clear hb
          have hft := fits_any q[k].toNat s[i + k].toNat
          rw [HB.out] at hft
          have HFT := hid hft
          clear hft
          go_wp2_with fail
          go_quiet ((go_at_call 67; exact Calls.quiet_of_same (HFT.out _)))
          go_wp2_with fail
          go_ret
          exact ⟨by rw [HF.out, drop_cons q k l1, drop_cons s (i + k) l2, fitN_stop HB.out]; simp, drew_more HW _⟩
      · have hd : decide ((i : Int) + (k : Int) < (s.size : Int)) = false := by simp; omega
        go_wp2_with fail
        go_quiet (fail)
        go_wp2_with fail
        go_ret
        exact ⟨by rw [HF.out, drop_end s (i + k) (by omega), fitN_right]; simp, drew_more HW _⟩
    · have hd : decide ((k : Int) < (q.size : Int)) = false := by simp; omega
      go_wp2_with fail
      go_quiet (fail)
      go_wp2_with fail
      go_ret
      exact ⟨by rw [HF.out, drop_end q k (by omega), Al.fitN_nil]; simp, drew_more HW _⟩
end Go.Proofs.Ytmjlcajcobbcgab

namespace Go.Proofs.Ytmjlcajcobbcgab
open Go.RowKit

/-- The cells of a statement. -/
def stA (s : Al.St) : Array Value := #[.int .i64 (s.1 : Nat), .int .u8 (s.2.1.toNat : Nat), .int .u8 (s.2.2.1.toNat : Nat), .int .u8 (s.2.2.2.1.toNat : Nat), .int .u8 (s.2.2.2.2.toNat : Nat)]

theorem u8_ne {m : UInt8} {n : Nat} (hn : n < 256) (h : m ≠ UInt8.ofNat n) : m.toNat ≠ n := fun e => h (Al.u8_of e hn)

set_option maxHeartbeats 1000000 in
theorem byteAt_any (s : Al.St) (m : UInt8) (w : World) :
    Calls Try.prog 84 #[.agg (stA s), .int .u8 (m.toNat : Nat)] w fun e w' => e = .returned (.int .u8 ((Al.byteAt s m).toNat : Nat)) ∧ w' = w.alloc (.cells (stA s) 93) := by
  obtain ⟨k, x, y, o, f⟩ := s
  simp only [stA]
  by_cases h1 : m = 120
  · subst h1
    go_enter Try.func84, Try.ntmps84
    go_wp2
    go_ret
    exact ⟨rfl, rfl⟩
  by_cases h2 : m = 121
  · subst h2
    go_enter Try.func84, Try.ntmps84
    go_wp2
    go_ret
    exact ⟨rfl, rfl⟩
  by_cases h3 : m = 111
  · subst h3
    go_enter Try.func84, Try.ntmps84
    go_wp2
    go_ret
    exact ⟨rfl, rfl⟩
  by_cases h4 : m = 102
  · subst h4
    go_enter Try.func84, Try.ntmps84
    go_wp2
    go_ret
    exact ⟨rfl, rfl⟩
  have HF : Hid (Al.byteAt (k, x, y, o, f) m = m) := by rw [Hid, Al.byteAt, if_neg h1, if_neg h2, if_neg h3, if_neg h4]
  have g1 : ((m.toNat : Int) == 120) = false := beq_eq_false_iff_ne.2 (by have := u8_ne (n := 120) (by decide) h1; omega)
  have g2 : ((m.toNat : Int) == 121) = false := beq_eq_false_iff_ne.2 (by have := u8_ne (n := 121) (by decide) h2; omega)
  have g3 : ((m.toNat : Int) == 111) = false := beq_eq_false_iff_ne.2 (by have := u8_ne (n := 111) (by decide) h3; omega)
  have g4 : ((m.toNat : Int) == 102) = false := beq_eq_false_iff_ne.2 (by have := u8_ne (n := 102) (by decide) h4; omega)
  clear h1 h2 h3 h4
  go_enter Try.func84, Try.ntmps84
  go_wp2
  go_ret
  exact ⟨by rw [HF.out]; rfl, rfl⟩

def bv (b : UInt8) : Value := .int .u8 (b.toNat : Nat)
theorem Try.info5 : (Try.prog.info? 5).map (fun i => (i.zero, i.size, i.bytes)) = some (some (.int .u8 0), 1, 1) := by kernel_rfl

theorem convert_own {w : World} {base : Nat} {v : Value} {l : List UInt8} (h : w.ownsRow base 5 1 v l.length (l.map bv)) (hne : l ≠ []) : (convert 71 9 v).run Try.prog w = .ok (.string (bs l)) w := by
  rcases h.2 with ⟨_, hn⟩ | ⟨g, cap, cur, rfl, _, hg, hl, hm, hsz, htk⟩
  · exact absurd (List.eq_nil_of_length_eq_zero hn) hne
  · exact run_convert_bytes_back w 71 9 5 ⟨g, 0, none⟩ cap l Try.underlying71 Try.underlying5 Try.underlying9 (fun j hj => h.cells (g := g) rfl j _ (by simp [bv, hj]))

theorem txt_take_succ {s : Al.St} {q : List UInt8} {k : Nat} (h : k < q.length) : (q.take (k + 1)).map (Al.byteAt s) = (q.take k).map (Al.byteAt s) ++ [Al.byteAt s q[k]] := by
  rw [List.take_succ_eq_append_getElem h, List.map_append]; rfl

set_option maxRecDepth 100000 in
set_option maxHeartbeats 1000000 in
theorem text_any (st : Al.St) (w : World) :
    Calls Try.prog 58 #[.agg (stA st)] w fun e w' => e = .returned (.string (bs (Al.txt st))) ∧ Below w.heap.size w w' := by
  obtain ⟨i0, hi, hz0, hz1, hz2⟩ := info_parts Try.info5
  have hs4 := Al.shpLen_ge st.1
  rw [← Al.shp_length] at hs4
  have HT : Hid (Al.txt st = (Al.shp st.1).map (Al.byteAt st)) := rfl
  have hbsz : (bs (Al.shp st.1)).size = (Al.shp st.1).length := rfl
  obtain ⟨q, hq⟩ : ∃ q, Al.shp st.1 = q := ⟨_, rfl⟩
  rw [hq] at HT hbsz hs4
  have HQ := hid hq
  have HB := byteAt_any st
  have HSH := hid (shapeOf_any st.1)
  rw [hq] at HSH
  clear hq
  have HA := hid HB
  clear HB
  unfold stA at HA ⊢
  go_enter Try.func58, Try.ntmps58
  go_wp2_with fail
  refine (HSH.out _).mono ?_
  rintro e w1 ⟨rfl, rfl⟩
  go_wp2_with fail
  generalize hO : Obj.cells #[Value.int .i64 ↑st.fst, Value.int .u8 ↑st.snd.fst.toNat, Value.int .u8 ↑st.snd.snd.fst.toNat, Value.int .u8 ↑st.snd.snd.snd.fst.toNat, Value.int .u8 ↑st.snd.snd.snd.snd.toNat] 93 = O at *
  have hnew : (w.alloc O).heap[w.heap.size]? = some O := heap_alloc_new w O
  rw [← hO] at hnew
  have e0 := cell_of_row _ _ 0 _ _ _ hnew
  have e1 := cell_of_row _ _ 1 _ _ _ hnew
  have e2 := cell_of_row _ _ 2 _ _ _ hnew
  have e3 := cell_of_row _ _ 3 _ _ _ hnew
  have e4 := cell_of_row _ _ 4 _ _ _ hnew
  simp only [List.getElem?_toArray, List.getElem?_cons_zero, List.getElem?_cons_succ] at e0 e1 e2 e3 e4
  rw [hO] at e0 e1 e2 e3 e4
  have HE := hid (And.intro e0 (And.intro e1 (And.intro e2 (And.intro e3 e4))))
  have HO := hid hO
  clear hnew e0 e1 e2 e3 e4 hO
  go_loopw [4, 5] (fun v i wr => ∃ k : Nat, k ≤ q.length ∧ i = .int .i64 k ∧ wr.ownsRow (w.heap.size + 1) 5 1 v ((q.take k).map (Al.byteAt st)).length (((q.take k).map (Al.byteAt st)).map bv) ∧ Below (w.heap.size + 1) (w.alloc O) wr) (fun _ i _ => q.length - (intOf i).toNat)
  case atStart => exact ⟨0, Nat.zero_le _, rfl, World.ownsRow_nil _ _ _ _, Below.refl _ _⟩
  case round =>
    obtain ⟨k, hk, rfl, hown, hbel⟩ := hrel
    obtain ⟨L, hL⟩ : ∃ L, (q.take k).map (Al.byteAt st) = L := ⟨_, rfl⟩
    have hLl : L.length = k := by rw [← hL]; simp; omega
    rw [hL] at hown
    have HLL := hid hL
    clear hL
    have hsz := hbel.size
    rw [World.size_alloc] at hsz
    by_cases hlt : k < q.length
    · have l1 : (0 : Int) ≤ (k : Int) := by omega
      have l2 : (k : Int) < ((bs q).size : Int) := by omega
      have c0 := (hbel.cell (p := ⟨w.heap.size, 0, none⟩) (by simp)).trans HE.out.1
      have c1 := (hbel.cell (p := ⟨w.heap.size, 1, none⟩) (by simp)).trans HE.out.2.1
      have c2 := (hbel.cell (p := ⟨w.heap.size, 2, none⟩) (by simp)).trans HE.out.2.2.1
      have c3 := (hbel.cell (p := ⟨w.heap.size, 3, none⟩) (by simp)).trans HE.out.2.2.2.1
      have c4 := (hbel.cell (p := ⟨w.heap.size, 4, none⟩) (by simp)).trans HE.out.2.2.2.2
      go_wp2_with fail
      go_region_held3 (fun w' => w'.cell? ⟨w.heap.size, 0, none⟩ = some (.int .i64 ↑st.fst) ∧ w'.cell? ⟨w.heap.size, 1, none⟩ = some (.int .u8 ↑st.snd.fst.toNat) ∧ w'.cell? ⟨w.heap.size, 2, none⟩ = some (.int .u8 ↑st.snd.snd.fst.toNat) ∧ w'.cell? ⟨w.heap.size, 3, none⟩ = some (.int .u8 ↑st.snd.snd.snd.fst.toNat) ∧ w'.cell? ⟨w.heap.size, 4, none⟩ = some (.int .u8 ↑st.snd.snd.snd.snd.toNat)) (go_keep)
        ((go_at_call 84; refine (HA.out _ _).mono ?_; rintro e w' ⟨rfl, rfl⟩))
      have hq6 := hs4.2
      have HOWN := hid (fun C => (hown.alloc O).alloc C)
      have HBEL := hid (fun C => ((hbel.alloc hsz O).alloc (by rw [World.size_alloc]; omega) C).drew)
      clear hown hbel c0 c1 c2 c3 c4
      go_wp2_with (at_builtin; refine append_at (w0 := w.alloc O) rfl (.tmp 21) (.tmp 23) 71 rfl (w.heap.size + 1) 5 i0 (.int .u8 0) 1 1 Try.underlying71 hi hz0 hz1 hz2 rfl (by decide) _ L.length (L.map bv) rfl (by exact HOWN.out _) (wr.heap.size + 1) #[.int .u8 ↑(Al.byteAt st (bs q)[k]).toNat] (by exact heap2 wr O _) rfl (by simp [Value.oneCell']) rfl (by omega) (by decide) (by simp; omega) (by exact HBEL.out _) ?_; intro v3 w3 hown3 hbel3)
      go_roundw
      case rel => exact ⟨k + 1, by omega, by go_num, by rw [txt_take_succ hlt, HLL.out]; simpa [bv] using (show w3.ownsRow _ _ _ v3 (L.length + 1) (L.map bv ++ [Value.int .u8 ↑(Al.byteAt st q[k]).toNat]) from hown3), hbel3⟩
      case measure => simp [intOf]; omega
    · have hkq : k = q.length := by omega
      have HLq : Hid (Al.txt st = L) := by rw [Hid, HT.out, ← HLL.out, List.take_of_length_le (by omega)]
      have hne : L ≠ [] := fun e => by rw [e] at hLl; simp at hLl; omega
      have hcv := convert_own hown hne
      have HBEL := hid hbel
      clear hkq hne hown hbel hLl
      go_wp2
      go_ret
      refine ⟨by rw [HLq.out]; rfl, ?_⟩
      have := HBEL.out.mono (Nat.le_succ _)
      exact ((Below.refl _ w).alloc (Nat.le_refl _) O).trans this
end Go.Proofs.Ytmjlcajcobbcgab

namespace Go.Proofs.Ytmjlcajcobbcgab
open Go.RowKit

theorem fill_succ : ∀ (q u : List UInt8) (s : Al.St) (k : Nat) (h1 : k < q.length) (h2 : k < u.length), Al.fillSt (q.take (k + 1)) u s = Al.fillStep q[k] u[k] (Al.fillSt (q.take k) u s)
  | [], _, _, _, h1, _ => by simp at h1
  | _ :: _, [], _, _, _, h2 => by simp at h2
  | m :: q, c :: u, s, 0, _, _ => by simp [Al.fillSt]
  | m :: q, c :: u, s, k + 1, h1, h2 => by
    simp only [List.take_succ_cons, Al.fillSt, List.getElem_cons_succ]
    exact fill_succ q u (Al.fillStep m c s) k (by simpa using h1) (by simpa using h2)
theorem drop_get (s : ByteArray) (i k : Nat) (h : i + k < s.size) (h' : k < (s.data.toList.drop i).length) : (s.data.toList.drop i)[k] = s[i + k] := by
  rw [List.getElem_drop]; rfl

set_option maxRecDepth 100000 in
set_option maxHeartbeats 1000000 in
theorem fill_any (kd : Nat) (s : ByteArray) (i : Nat) (w : World) (hi : i ≤ 1000000) (hf : i + Al.shpLen kd ≤ s.size) :
    Calls Try.prog 98 #[.int .i64 kd, .string s, .int .i64 i] w fun e w' => e = .returned (.agg (stA (Al.mkSt kd (s.data.toList.drop i)))) ∧ Below w.heap.size w w' := by
  have hq6 := Al.shpLen_ge kd
  have HSH := hid (shapeOf_any kd)
  obtain ⟨S0, hS0⟩ : ∃ S, Al.mkSt kd (s.data.toList.drop i) = S := ⟨_, rfl⟩
  rw [hS0]
  have HM : Hid (S0 = Al.fillSt (Al.shp kd) (s.data.toList.drop i) (kd, 0, 0, 0, 0)) := hS0.symm
  clear hS0
  have hbsz : (bs (Al.shp kd)).size = (Al.shp kd).length := rfl
  rw [← Al.shp_length] at hq6 hf
  generalize Al.shp kd = q at *
  have HU : Hid ((s.data.toList.drop i).length = s.size - i) := by rw [Hid, List.length_drop]; rfl
  go_enter Try.func98, Try.ntmps98
  go_wp2_with fail
  refine (HSH.out _).mono ?_
  rintro e w1 ⟨rfl, rfl⟩
  go_wp2_with fail
  generalize hu : s.data.toList.drop i = u at *
  have HUE := hid hu
  clear hu
  go_loopw [9] (fun i9 wr => ∃ k : Nat, k ≤ q.length ∧ i9 = .int .i64 k ∧ wr.heap[w.heap.size]? = some (.cells (stA (0, 0, 0, 0, 0)) 93 (0, 0)) ∧ wr.heap[w.heap.size + 1]? = some (.cells (stA (Al.fillSt (q.take k) u (kd, 0, 0, 0, 0))) 93 (0, 0)) ∧ Below w.heap.size w wr) (fun i9 _ => q.length - (intOf i9).toNat)
  case atStart =>
    refine ⟨0, Nat.zero_le _, rfl, ?_, ?_, ((Below.refl _ _).alloc (Nat.le_refl _) _).alloc (by rw [World.size_alloc]; omega) _⟩
    · rw [Below.heap_alloc _ _ _ (by rw [World.size_alloc]; omega)]; exact heap_alloc_new w _
    · exact heap2 w _ _
  case round =>
    obtain ⟨k, hk, rfl, hb0, hb1, hbel⟩ := hrel
    have hsz := hbel.size
    by_cases hlt : k < q.length
    · have hlu : k < u.length := by rw [HU.out]; omega
      have HSC := hid (fill_succ q u (kd, 0, 0, 0, 0) k hlt hlu)
      have HGU : Hid (u[k] = s[i + k]'(by omega)) := by
        have := drop_get s i k (by omega) (by rw [HUE.out]; exact hlu)
        exact hid (by simpa [HUE.out] using this)
      generalize Al.fillSt (q.take k) u (kd, 0, 0, 0, 0) = S at *
      obtain ⟨kk, x, y, o, f⟩ := S
      have l2 : i + k < s.size := by omega
      have hwr : IntKind.i64.wrap ((i : Int) + (k : Int)) = (i : Int) + (k : Int) := IntWalk.i64_in _ ⟨by omega, by omega⟩
      have hix := index_sum s i k l2
      have hcast : ((i : Int) + (k : Int)) < (s.size : Int) := by omega
      have HB0 := hid hb0
      have HB1 := hid hb1
      have HBEL := hid hbel
      have c1 := block_cell (j := 1) hb1
      have c2 := block_cell (j := 2) hb1
      have c3 := block_cell (j := 3) hb1
      have c4 := block_cell (j := 4) hb1
      have f1 := block_free (j := 1) hb1
      have f2 := block_free (j := 2) hb1
      have f3 := block_free (j := 3) hb1
      have f4 := block_free (j := 4) hb1
      simp only [stA, List.getElem?_toArray, List.getElem?_cons_zero, List.getElem?_cons_succ] at c1 c2 c3 c4
      clear hb0 hb1 hbel
      by_cases m1 : q[k] = 120
      · have hm : ((bs q)[k].toNat : Int) = 120 := by show ((q[k]).toNat : Int) = _; rw [m1]; rfl
        go_wp2
        go_roundw
        case rel =>
          refine ⟨k + 1, by omega, by go_num, ?_, ?_, HBEL.out.setCell (by simp) _⟩
          · rw [Below.heap_setCell _ _ _ _ (by simp)]; exact HB0.out
          · rw [block_setCell _ HB1.out, HSC.out, HGU.out, m1]; rfl
        case measure => simp [intOf]; omega
      by_cases m2 : q[k] = 121
      · have hm : ((bs q)[k].toNat : Int) = 121 := by show ((q[k]).toNat : Int) = _; rw [m2]; rfl
        go_wp2
        go_roundw
        case rel =>
          refine ⟨k + 1, by omega, by go_num, ?_, ?_, HBEL.out.setCell (by simp) _⟩
          · rw [Below.heap_setCell _ _ _ _ (by simp)]; exact HB0.out
          · rw [block_setCell _ HB1.out, HSC.out, HGU.out, m2]; rfl
        case measure => simp [intOf]; omega
      by_cases m3 : q[k] = 111
      · have hm : ((bs q)[k].toNat : Int) = 111 := by show ((q[k]).toNat : Int) = _; rw [m3]; rfl
        go_wp2
        go_roundw
        case rel =>
          refine ⟨k + 1, by omega, by go_num, ?_, ?_, HBEL.out.setCell (by simp) _⟩
          · rw [Below.heap_setCell _ _ _ _ (by simp)]; exact HB0.out
          · rw [block_setCell _ HB1.out, HSC.out, HGU.out, m3]; rfl
        case measure => simp [intOf]; omega
      by_cases m4 : q[k] = 102
      · have hm : ((bs q)[k].toNat : Int) = 102 := by show ((q[k]).toNat : Int) = _; rw [m4]; rfl
        go_wp2
        go_roundw
        case rel =>
          refine ⟨k + 1, by omega, by go_num, ?_, ?_, HBEL.out.setCell (by simp) _⟩
          · rw [Below.heap_setCell _ _ _ _ (by simp)]; exact HB0.out
          · rw [block_setCell _ HB1.out, HSC.out, HGU.out, m4]; rfl
        case measure => simp [intOf]; omega
      have g1 : ((bs q)[k].toNat : Int) ≠ 120 := by show ((q[k]).toNat : Int) ≠ _; have := u8_ne (n := 120) (by decide) m1; omega
      have g2 : ((bs q)[k].toNat : Int) ≠ 121 := by show ((q[k]).toNat : Int) ≠ _; have := u8_ne (n := 121) (by decide) m2; omega
      have g3 : ((bs q)[k].toNat : Int) ≠ 111 := by show ((q[k]).toNat : Int) ≠ _; have := u8_ne (n := 111) (by decide) m3; omega
      have g4 : ((bs q)[k].toNat : Int) ≠ 102 := by show ((q[k]).toNat : Int) ≠ _; have := u8_ne (n := 102) (by decide) m4; omega
      have b1 := beq_eq_false_iff_ne.2 g1
      have b2 := beq_eq_false_iff_ne.2 g2
      have b3 := beq_eq_false_iff_ne.2 g3
      have b4 := beq_eq_false_iff_ne.2 g4
      clear g1 g2 g3 g4
      have HST : Hid (Al.fillStep q[k] u[k] (kk, x, y, o, f) = (kk, x, y, o, f)) := by rw [Hid, Al.fillStep, if_neg m1, if_neg m2, if_neg m3, if_neg m4]
      clear m1 m2 m3 m4
      go_wp2
      go_roundw
      case rel =>
        refine ⟨k + 1, by omega, by go_num, HB0.out, ?_, HBEL.out⟩
        rw [HSC.out, HST.out]; exact HB1.out
      case measure => simp [intOf]; omega
    · have hd : decide ((k : Int) < (q.length : Int)) = false := by simp; omega
      have HT : Hid (Al.fillSt (q.take k) u (kd, 0, 0, 0, 0) = S0) := by rw [Hid, HM.out, List.take_of_length_le (by omega)]
      rw [HT.out] at hb1
      obtain ⟨kk, x, y, o, f⟩ := S0
      have c0 := block_cell (j := 0) hb1
      have c1 := block_cell (j := 1) hb1
      have c2 := block_cell (j := 2) hb1
      have c3 := block_cell (j := 3) hb1
      have c4 := block_cell (j := 4) hb1
      have d0 := block_cell (j := 0) hb0
      have d1 := block_cell (j := 1) hb0
      have d2 := block_cell (j := 2) hb0
      have d3 := block_cell (j := 3) hb0
      have d4 := block_cell (j := 4) hb0
      have f0 := block_free (j := 0) hb0
      have f1 := block_free (j := 1) hb0
      have f2 := block_free (j := 2) hb0
      have f3 := block_free (j := 3) hb0
      have f4 := block_free (j := 4) hb0
      simp only [stA, List.getElem?_toArray, List.getElem?_cons_zero, List.getElem?_cons_succ] at c0 c1 c2 c3 c4 d0 d1 d2 d3 d4
      have HW : Hid ((((((wr.setCell ⟨w.heap.size, 0, none⟩ (.int .i64 ↑kk)).setCell ⟨w.heap.size, 1, none⟩ (.int .u8 ↑x.toNat)).setCell ⟨w.heap.size, 2, none⟩ (.int .u8 ↑y.toNat)).setCell ⟨w.heap.size, 3, none⟩ (.int .u8 ↑o.toNat)).setCell ⟨w.heap.size, 4, none⟩ (.int .u8 ↑f.toNat)).heap[w.heap.size]? = some (.cells (stA (kk, x, y, o, f)) 93 (0, 0)) ∧
          Below w.heap.size w (((((wr.setCell ⟨w.heap.size, 0, none⟩ (.int .i64 ↑kk)).setCell ⟨w.heap.size, 1, none⟩ (.int .u8 ↑x.toNat)).setCell ⟨w.heap.size, 2, none⟩ (.int .u8 ↑y.toNat)).setCell ⟨w.heap.size, 3, none⟩ (.int .u8 ↑o.toNat)).setCell ⟨w.heap.size, 4, none⟩ (.int .u8 ↑f.toNat))) :=
        ⟨block_setCell _ (block_setCell _ (block_setCell _ (block_setCell _ (block_setCell _ hb0)))), ((((hbel.setCell (Nat.le_refl _) _).setCell (Nat.le_refl _) _).setCell (Nat.le_refl _) _).setCell (Nat.le_refl _) _).setCell (Nat.le_refl _) _⟩
      clear hb0 hb1 hbel
      go_wp2
      clear c0 c1 c2 c3 c4 d0 d1 d2 d3 d4 f0 f1 f2 f3 f4
      generalize ((((wr.setCell ⟨w.heap.size, 0, none⟩ (.int .i64 ↑kk)).setCell ⟨w.heap.size, 1, none⟩ (.int .u8 ↑x.toNat)).setCell ⟨w.heap.size, 2, none⟩ (.int .u8 ↑y.toNat)).setCell ⟨w.heap.size, 3, none⟩ (.int .u8 ↑o.toNat)).setCell ⟨w.heap.size, 4, none⟩ (.int .u8 ↑f.toNat) = W at *
      obtain ⟨hW, hbelW⟩ := HW.out
      have c0 := block_cell (j := 0) hW
      have c1 := block_cell (j := 1) hW
      have c2 := block_cell (j := 2) hW
      have c3 := block_cell (j := 3) hW
      have c4 := block_cell (j := 4) hW
      simp only [stA, List.getElem?_toArray, List.getElem?_cons_zero, List.getElem?_cons_succ] at c0 c1 c2 c3 c4
      exact bodyPost_ret (v := .agg (stA (kk, x, y, o, f))) (by simp [results, Try.results98, go_sem, stA, c0, c1, c2, c3, c4]) rfl ⟨rfl, hbelW⟩
end Go.Proofs.Ytmjlcajcobbcgab

namespace Go.Proofs.Ytmjlcajcobbcgab
open Go.RowKit

/-- What the program's reader answers. -/
def rdSt (u : List UInt8) : Al.St := if Al.kindOf u < 4 then Al.mkSt (Al.kindOf u) u else (0, 0, 0, 0, 0)

theorem kindOf_eq (u : List UInt8) : Al.kindOf u = if Al.fitN (Al.shp 0) u = Al.shpLen 0 then 0 else if Al.fitN (Al.shp 1) u = Al.shpLen 1 then 1 else if Al.fitN (Al.shp 2) u = Al.shpLen 2 then 2 else if Al.fitN (Al.shp 3) u = Al.shpLen 3 then 3 else 4 := rfl
theorem kind_found {u : List UInt8} {k : Nat} (hk : k < 4) (hno : ∀ j, j < k → Al.fitN (Al.shp j) u ≠ Al.shpLen j) (hyes : Al.fitN (Al.shp k) u = Al.shpLen k) : Al.kindOf u = k := by
  rw [kindOf_eq]
  match k, hk with
  | 0, _ => rw [if_pos hyes]
  | 1, _ => rw [if_neg (hno 0 (by omega)), if_pos hyes]
  | 2, _ => rw [if_neg (hno 0 (by omega)), if_neg (hno 1 (by omega)), if_pos hyes]
  | 3, _ => rw [if_neg (hno 0 (by omega)), if_neg (hno 1 (by omega)), if_neg (hno 2 (by omega)), if_pos hyes]
theorem kind_none {u : List UInt8} (hno : ∀ j, j < 4 → Al.fitN (Al.shp j) u ≠ Al.shpLen j) : Al.kindOf u = 4 := by
  rw [kindOf_eq, if_neg (hno 0 (by omega)), if_neg (hno 1 (by omega)), if_neg (hno 2 (by omega)), if_neg (hno 3 (by omega))]

theorem zero_cells {w : World} {b : Nat} (hb0 : w.heap[b]? = some (.cells (stA (0, 0, 0, 0, 0)) 93 (0, 0))) :
    w.cell? ⟨b, 0, none⟩ = some (.int .i64 0) ∧ w.cell? ⟨b, 1, none⟩ = some (.int .u8 0) ∧ w.cell? ⟨b, 2, none⟩ = some (.int .u8 0) ∧ w.cell? ⟨b, 3, none⟩ = some (.int .u8 0) ∧ w.cell? ⟨b, 4, none⟩ = some (.int .u8 0) :=
  ⟨block_cell (j := 0) hb0, block_cell (j := 1) hb0, block_cell (j := 2) hb0, block_cell (j := 3) hb0, block_cell (j := 4) hb0⟩
theorem st_cells {w : World} {b : Nat} {k : Nat} {x y o f : UInt8} (hb0 : w.heap[b]? = some (.cells (stA (k, x, y, o, f)) 93 (0, 0))) :
    w.cell? ⟨b, 0, none⟩ = some (.int .i64 (k : Nat)) ∧ w.cell? ⟨b, 1, none⟩ = some (.int .u8 (x.toNat : Nat)) ∧ w.cell? ⟨b, 2, none⟩ = some (.int .u8 (y.toNat : Nat)) ∧ w.cell? ⟨b, 3, none⟩ = some (.int .u8 (o.toNat : Nat)) ∧ w.cell? ⟨b, 4, none⟩ = some (.int .u8 (f.toNat : Nat)) :=
  ⟨block_cell (j := 0) hb0, block_cell (j := 1) hb0, block_cell (j := 2) hb0, block_cell (j := 3) hb0, block_cell (j := 4) hb0⟩
theorem st_free {w : World} {b : Nat} {S : Array Value} (hb0 : w.heap[b]? = some (.cells S 93 (0, 0))) :
    w.frozen? ⟨b, 0, none⟩ = false ∧ w.frozen? ⟨b, 1, none⟩ = false ∧ w.frozen? ⟨b, 2, none⟩ = false ∧ w.frozen? ⟨b, 3, none⟩ = false ∧ w.frozen? ⟨b, 4, none⟩ = false :=
  ⟨block_free (j := 0) hb0, block_free (j := 1) hb0, block_free (j := 2) hb0, block_free (j := 3) hb0, block_free (j := 4) hb0⟩
/-- The world behind the store of a statement into a block. -/
def stored (w : World) (b : Nat) (k : Nat) (x y o f : UInt8) : World :=
  ((((w.setCell ⟨b, 0, none⟩ (.int .i64 ↑k)).setCell ⟨b, 1, none⟩ (.int .u8 ↑x.toNat)).setCell ⟨b, 2, none⟩ (.int .u8 ↑y.toNat)).setCell ⟨b, 3, none⟩ (.int .u8 ↑o.toNat)).setCell ⟨b, 4, none⟩ (.int .u8 ↑f.toNat)
theorem stored_eq (w : World) (b : Nat) (k : Nat) (x y o f : UInt8) : ((((w.setCell ⟨b, 0, none⟩ (.int .i64 ↑k)).setCell ⟨b, 1, none⟩ (.int .u8 ↑x.toNat)).setCell ⟨b, 2, none⟩ (.int .u8 ↑y.toNat)).setCell ⟨b, 3, none⟩ (.int .u8 ↑o.toNat)).setCell ⟨b, 4, none⟩ (.int .u8 ↑f.toNat) = stored w b k x y o f := rfl
theorem stored_zero (w : World) (b : Nat) : ((((w.setCell ⟨b, 0, none⟩ (.int .i64 0)).setCell ⟨b, 1, none⟩ (.int .u8 0)).setCell ⟨b, 2, none⟩ (.int .u8 0)).setCell ⟨b, 3, none⟩ (.int .u8 0)).setCell ⟨b, 4, none⟩ (.int .u8 0) = stored w b 0 0 0 0 0 := rfl
theorem stored_block {w : World} {b : Nat} {S : Al.St} {k : Nat} {x y o f : UInt8} (h : w.heap[b]? = some (.cells (stA S) 93 (0, 0))) : (stored w b k x y o f).heap[b]? = some (.cells (stA (k, x, y, o, f)) 93 (0, 0)) :=
  block_setCell _ (block_setCell _ (block_setCell _ (block_setCell _ (block_setCell _ h))))
theorem stored_below {w0 w : World} {B b : Nat} {k : Nat} {x y o f : UInt8} (h : Below B w0 w) (hb : B ≤ b) : Below B w0 (stored w b k x y o f) :=
  ((((h.setCell hb _).setCell hb _).setCell hb _).setCell hb _).setCell hb _

set_option maxRecDepth 100000 in
set_option maxHeartbeats 2000000 in
theorem readStatement_any (s : ByteArray) (i : Nat) (w : World) (hi : i ≤ s.size) (hs : s.size ≤ 1000000) :
    Calls Try.prog 82 #[.string s, .int .i64 i] w fun e w' => e = .returned (.tuple #[.agg (stA (rdSt (s.data.toList.drop i))), .int .i64 ((Al.refStmt s.data.toList i).1 : Nat), .bool (Al.refStmt s.data.toList i).2]) ∧ Below w.heap.size w w' := by
  have HR := hid (Al.read_same s.data.toList i)
  have HFT := hid (fun k => fitting_any (bs (Al.shp k)) s i)
  have HFL := hid (fun kd => fill_any kd s i)
  have HU : Hid ((s.data.toList.drop i).length = s.size - i) := by rw [Hid, List.length_drop]; rfl
  generalize hu : s.data.toList.drop i = u at *
  go_enter Try.func82, Try.ntmps82
  go_wp2_with fail
  go_loopw [7, 8] (fun f kd wr => ∃ k : Nat, k ≤ 4 ∧ kd = .int .i64 k ∧ f = .int .i64 (Al.fur u k : Nat) ∧ (∀ j, j < k → Al.fitN (Al.shp j) u ≠ Al.shpLen j) ∧ wr.heap[w.heap.size]? = some (.cells (stA (0, 0, 0, 0, 0)) 93 (0, 0)) ∧ Below w.heap.size w wr) (fun _ kd _ => 4 - (intOf kd).toNat)
  case atStart => exact ⟨0, by omega, rfl, rfl, fun j hj => by omega, heap_alloc_new w _, (Below.refl _ _).alloc (Nat.le_refl _) _⟩
  case round =>
    obtain ⟨k, hk, rfl, rfl, hno, hb0, hbel⟩ := hrel
    have HNO := hid hno
    have hfl := Al.fur_le u k
    clear hno
    by_cases hlt : k < 4
    · have hq6 := Al.shpLen_ge k
      have HSL := hid (Al.shp_length k)
      have HFS : Hid (Al.fur u (k + 1) = if Al.fur u k < Al.fitN (Al.shp k) u then Al.fitN (Al.shp k) u else Al.fur u k) := rfl
      have hbsz : (bs (Al.shp k)).size = Al.shpLen k := Al.shp_length k
      have hfn := Al.fitN_le_right (Al.shp k) u
      rw [HU.out] at hfn
      obtain ⟨nn, hnn⟩ : ∃ nn, Al.fitN (Al.shp k) u = nn := ⟨_, rfl⟩
      rw [hnn] at hfn HFS
      have HN := hid hnn
      clear hnn
      obtain ⟨F, hF⟩ : ∃ F, Al.fur u k = F := ⟨_, rfl⟩
      rw [hF] at HFS hfl
      rw [hF]
      have HFF := hid hF
      clear hF
      go_wp2_with fail
      refine (shapeOf_any k _).mono ?_
      rintro e w1 ⟨rfl, rfl⟩
      go_wp2_with fail
      refine (HFT.out k _ (by rw [hbsz]; omega) (by omega)).mono ?_
      rintro e w2 ⟨rfl, n2, rfl⟩
      rw [bs_data, HN.out]
      by_cases heq : nn = Al.shpLen k
      · have HKF : Hid (Al.kindOf u = k) := kind_found hlt HNO.out (by rw [HN.out, heq])
        have HRD : Hid (rdSt u = Al.mkSt k u) := by rw [Hid, rdSt, HKF.out, if_pos hlt]
        have HPL : Hid (Al.refStmt s.data.toList i = (i + nn, true)) := by rw [Hid, HR.out, HKF.out, if_pos hlt, heq]
        have hte : ((nn : Int) == (Al.shpLen k : Int)) = true := by simp [heq]
        have hlen : i + Al.shpLen k ≤ s.size := by omega
        have hb2 : (w1.drewN n2).heap[w.heap.size]? = some (.cells (stA (0, 0, 0, 0, 0)) 93 (0, 0)) := hb0
        have hbel2 : Below w.heap.size w (w1.drewN n2) := ⟨hbel.os, hbel.tape, hbel.output, hbel.size, hbel.block⟩
        generalize w1.drewN n2 = wq at *
        have hsz := hbel2.size
        clear heq hb0 hbel
        go_wp2_with fail
        refine (HFL.out k _ (by omega) hlen).mono ?_
        rintro e w3 ⟨rfl, hbel3⟩
        generalize hS : Al.mkSt k u = S at *
        obtain ⟨kk, x, y, o, f⟩ := S
        have hlb : w.heap.size < wq.heap.size := (Array.getElem?_eq_some_iff.1 hb2).1
        have hb3 : w3.heap[w.heap.size]? = some (.cells (stA (0, 0, 0, 0, 0)) 93 (0, 0)) := by rw [hbel3.block _ hlb]; exact hb2
        obtain ⟨d0, d1, d2, d3, d4⟩ := zero_cells hb3
        obtain ⟨f0, f1, f2, f3, f4⟩ := st_free hb3
        have HB := hid (And.intro (stored_block (k := kk) (x := x) (y := y) (o := o) (f := f) hb3) (stored_below (k := kk) (x := x) (y := y) (o := o) (f := f) (hbel2.trans (hbel3.mono hsz)) (Nat.le_refl _)))
        clear hb3 hbel3 hbel2 hb2 hS
        simp only [stA]
        go_wp2_with fail
        clear d0 d1 d2 d3 d4 f0 f1 f2 f3 f4
        rw [stored_eq]
        generalize stored w3 w.heap.size kk x y o f = W at *
        obtain ⟨hW, hbelW⟩ := HB.out
        obtain ⟨c0, c1, c2, c3, c4⟩ := st_cells hW
        exact bodyPost_ret (v := .tuple #[.agg (stA (kk, x, y, o, f)), .int .i64 (i + nn : Nat), .bool true]) (by simp [results, Try.results82, go_sem, stA, c0, c1, c2, c3, c4]) rfl ⟨by rw [HRD.out, HPL.out], hbelW⟩
      · have hte : ((nn : Int) == (Al.shpLen k : Int)) = false := beq_eq_false_iff_ne.2 (by omega)
        have HNO2 : Hid (∀ j, j < k + 1 → Al.fitN (Al.shp j) u ≠ Al.shpLen j) := fun j hj => by
          rcases Nat.lt_succ_iff_lt_or_eq.1 hj with h | rfl
          · exact HNO.out j h
          · rw [HN.out]; exact heq
        have hb2 : (w1.drewN n2).heap[w.heap.size]? = some (.cells (stA (0, 0, 0, 0, 0)) 93 (0, 0)) := hb0
        have hbel2 : Below w.heap.size w (w1.drewN n2) := ⟨hbel.os, hbel.tape, hbel.output, hbel.size, hbel.block⟩
        generalize w1.drewN n2 = wq at *
        clear heq hb0 hbel
        by_cases hgt : F < nn
        · go_wp2_with fail
          go_roundw
          case rel => exact ⟨k + 1, by omega, by go_num, by rw [HFS.out, if_pos hgt], HNO2.out, hb2, hbel2⟩
          case measure => simp [intOf]; omega
        · go_wp2_with fail
          go_roundw
          case rel => exact ⟨k + 1, by omega, by go_num, by rw [HFS.out, if_neg hgt], HNO2.out, hb2, hbel2⟩
          case measure => simp [intOf]; omega
    · have hk4 : k = 4 := by omega
      subst hk4
      have HKF : Hid (Al.kindOf u = 4) := kind_none HNO.out
      have HRD : Hid (rdSt u = (0, 0, 0, 0, 0)) := by rw [Hid, rdSt, HKF.out, if_neg (by omega)]
      have HPL : Hid (Al.refStmt s.data.toList i = (i + Al.fur u 4, false)) := by rw [Hid, HR.out, HKF.out, if_neg (by omega)]
      generalize Al.fur u 4 = F at *
      obtain ⟨d0, d1, d2, d3, d4⟩ := zero_cells hb0
      obtain ⟨f0, f1, f2, f3, f4⟩ := st_free hb0
      have HB := hid (And.intro (stored_block (k := 0) (x := 0) (y := 0) (o := 0) (f := 0) hb0) (stored_below (k := 0) (x := 0) (y := 0) (o := 0) (f := 0) hbel (Nat.le_refl _)))
      clear hb0 hbel
      go_wp2_with fail
      clear d0 d1 d2 d3 d4 f0 f1 f2 f3 f4
      rw [stored_zero]
      generalize stored wr w.heap.size 0 0 0 0 0 = W at *
      obtain ⟨hW, hbelW⟩ := HB.out
      obtain ⟨c0, c1, c2, c3, c4⟩ := zero_cells hW
      exact bodyPost_ret (v := .tuple #[.agg (stA (0, 0, 0, 0, 0)), .int .i64 (i + F : Nat), .bool false]) (by simp [results, Try.results82, go_sem, stA, c0, c1, c2, c3, c4]) rfl ⟨by rw [HRD.out, HPL.out], hbelW⟩
end Go.Proofs.Ytmjlcajcobbcgab
