import Derived.Test.YtmjlcajcobbcgabXc
import Derived.Test.YtmjlcajcobbcgabXa
import Derived.Deep.RegionHeld3
namespace Go.Proofs.Ytmjlcajcobbcgab
open Go.RowKit

/-! What points where: the document's helpers. -/

theorem wf_cases {s : Al.St} (h : Al.Wf s) :
    (∃ x o, s = (0, x, 0, o, 0) ∧ Al.vB x.toNat = true ∧ Al.oB o.toNat = true) ∨ (∃ x y, s = (1, x, y, 0, 0) ∧ Al.vB x.toNat = true ∧ Al.vB y.toNat = true) ∨
    (∃ x y f, s = (2, x, y, 0, f) ∧ Al.vB x.toNat = true ∧ Al.vB y.toNat = true ∧ Al.fB f.toNat = true) ∨ (∃ x y f, s = (3, x, y, 0, f) ∧ Al.vB x.toNat = true ∧ Al.vB y.toNat = true ∧ Al.fB f.toNat = true) := by
  obtain ⟨k, x, y, o, f⟩ := s
  simp only [Al.Wf] at h
  rcases h with ⟨h0, ⟨rfl, rfl, h1, rfl⟩ | ⟨rfl, h1, rfl, rfl⟩ | ⟨rfl | rfl, h1, rfl, h2⟩⟩
  · exact .inl ⟨x, o, rfl, h0, h1⟩
  · exact .inr (.inl ⟨x, y, rfl, h0, h1⟩)
  · exact .inr (.inr (.inl ⟨x, y, f, rfl, h0, h1, h2⟩))
  · exact .inr (.inr (.inr ⟨x, y, f, rfl, h0, h1, h2⟩))
theorem txt0 (x o : UInt8) : Al.txt (0, x, 0, o, 0) = [x, 61, 64, o, 59] := rfl
theorem txt1 (x y : UInt8) : Al.txt (1, x, y, 0, 0) = [x, 61, y, 59] := rfl
theorem txt2 (x y f : UInt8) : Al.txt (2, x, y, 0, f) = [x, 61, y, 46, f, 59] := rfl
theorem txt3 (x y f : UInt8) : Al.txt (3, x, y, 0, f) = [x, 46, f, 61, y, 59] := rfl

theorem ix (l : List UInt8) (j : Nat) (i n : Int) (hi : i = j) (hc : (l[j]?.map fun c => (c.toNat : Int)) = some n) (wx : World) : (Instr.index 9 (.string (bs l)) (.int .i64 i)).run Try.prog wx = .ok (.int .u8 n) wx := by
  subst hi
  have h : j < l.length := by
    rcases Nat.lt_or_ge j l.length with h | h
    · exact h
    · rw [List.getElem?_eq_none h] at hc; cases hc
  rw [List.getElem?_eq_getElem h] at hc
  simp only [Option.map_some, Option.some.injEq] at hc
  rw [run_index_string (P := Try.prog) wx 9 (bs l) .i64 _ Try.underlying9, dif_pos ⟨by omega, by rw [bs_size]; omega⟩]
  rw [← hc]; rfl

theorem v_bd {c : UInt8} (h : Al.vB c.toNat = true) : 97 ≤ c.toNat ∧ c.toNat ≤ 108 := by simpa [Al.vB] using h
theorem o_bd {c : UInt8} (h : Al.oB c.toNat = true) : 65 ≤ c.toNat ∧ c.toNat ≤ 76 := by simpa [Al.oB] using h
theorem f_bd {c : UInt8} (h : Al.fB c.toNat = true) : 48 ≤ c.toNat ∧ c.toNat ≤ 53 := by simpa [Al.fB] using h

set_option maxHeartbeats 400000 in
theorem isNew_any (s : Al.St) (w : World) (h : Al.Wf s) : Calls Try.prog 93 #[.string (bs (Al.txt s))] w fun e w' => e = .returned (.bool (s.1 == 0)) ∧ w' = w := by
  rcases wf_cases h with ⟨x, o, rfl, h0, h1⟩ | ⟨x, y, rfl, h0, h1⟩ | ⟨x, y, f, rfl, h0, h1, h2⟩ | ⟨x, y, f, rfl, h0, h1, h2⟩
  · rw [txt0]
    have i2 := ix [x, 61, 64, o, 59] 2 2 64 rfl rfl
    go_enter Try.func93, Try.ntmps93
    go_wp2
    go_ret
    exact ⟨rfl, rfl⟩
  · rw [txt1]
    have i2 := ix [x, 61, y, 59] 2 2 y.toNat rfl rfl
    have hb := v_bd h1
    have hf : ((y.toNat : Int) == 64) = false := beq_eq_false_iff_ne.2 (by omega)
    go_enter Try.func93, Try.ntmps93
    go_wp2
    go_ret
    exact ⟨rfl, rfl⟩
  · rw [txt2]
    have i2 := ix [x, 61, y, 46, f, 59] 2 2 y.toNat rfl rfl
    have hb := v_bd h1
    have hf : ((y.toNat : Int) == 64) = false := beq_eq_false_iff_ne.2 (by omega)
    go_enter Try.func93, Try.ntmps93
    go_wp2
    go_ret
    exact ⟨rfl, rfl⟩
  · rw [txt3]
    have i2 := ix [x, 46, f, 61, y, 59] 2 2 f.toNat rfl rfl
    have hb := f_bd h2
    have hf : ((f.toNat : Int) == 64) = false := beq_eq_false_iff_ne.2 (by omega)
    go_enter Try.func93, Try.ntmps93
    go_wp2
    go_ret
    exact ⟨rfl, rfl⟩
set_option maxHeartbeats 400000 in
theorem isCopy_any (s : Al.St) (w : World) (h : Al.Wf s) : Calls Try.prog 94 #[.string (bs (Al.txt s))] w fun e w' => e = .returned (.bool (s.1 == 1)) ∧ w' = w := by
  rcases wf_cases h with ⟨x, o, rfl, h0, h1⟩ | ⟨x, y, rfl, h0, h1⟩ | ⟨x, y, f, rfl, h0, h1, h2⟩ | ⟨x, y, f, rfl, h0, h1, h2⟩
  · rw [txt0]
    have hs : (bs [x, 61, 64, o, 59]).size = 5 := rfl
    go_enter Try.func94, Try.ntmps94
    go_wp2
    go_ret
    exact ⟨rfl, rfl⟩
  · rw [txt1]
    have hs : (bs [x, 61, y, 59]).size = 4 := rfl
    go_enter Try.func94, Try.ntmps94
    go_wp2
    go_ret
    exact ⟨rfl, rfl⟩
  · rw [txt2]
    have hs : (bs [x, 61, y, 46, f, 59]).size = 6 := rfl
    go_enter Try.func94, Try.ntmps94
    go_wp2
    go_ret
    exact ⟨rfl, rfl⟩
  · rw [txt3]
    have hs : (bs [x, 46, f, 61, y, 59]).size = 6 := rfl
    go_enter Try.func94, Try.ntmps94
    go_wp2
    go_ret
    exact ⟨rfl, rfl⟩
set_option maxHeartbeats 400000 in
theorem isLoad_any (s : Al.St) (w : World) (h : Al.Wf s) : Calls Try.prog 102 #[.string (bs (Al.txt s))] w fun e w' => e = .returned (.bool (s.1 == 2)) ∧ w' = w := by
  rcases wf_cases h with ⟨x, o, rfl, h0, h1⟩ | ⟨x, y, rfl, h0, h1⟩ | ⟨x, y, f, rfl, h0, h1, h2⟩ | ⟨x, y, f, rfl, h0, h1, h2⟩
  · rw [txt0]
    have hs : (bs [x, 61, 64, o, 59]).size = 5 := rfl
    have i1 := ix [x, 61, 64, o, 59] 1 1 61 rfl rfl
    go_enter Try.func102, Try.ntmps102
    go_wp2
    go_ret
    exact ⟨rfl, rfl⟩
  · rw [txt1]
    have hs : (bs [x, 61, y, 59]).size = 4 := rfl
    have i1 := ix [x, 61, y, 59] 1 1 61 rfl rfl
    go_enter Try.func102, Try.ntmps102
    go_wp2
    go_ret
    exact ⟨rfl, rfl⟩
  · rw [txt2]
    have hs : (bs [x, 61, y, 46, f, 59]).size = 6 := rfl
    have i1 := ix [x, 61, y, 46, f, 59] 1 1 61 rfl rfl
    go_enter Try.func102, Try.ntmps102
    go_wp2
    go_ret
    exact ⟨rfl, rfl⟩
  · rw [txt3]
    have hs : (bs [x, 46, f, 61, y, 59]).size = 6 := rfl
    have i1 := ix [x, 46, f, 61, y, 59] 1 1 46 rfl rfl
    go_enter Try.func102, Try.ntmps102
    go_wp2
    go_ret
    exact ⟨rfl, rfl⟩
set_option maxHeartbeats 400000 in
theorem isStore_any (s : Al.St) (w : World) (h : Al.Wf s) : Calls Try.prog 92 #[.string (bs (Al.txt s))] w fun e w' => e = .returned (.bool (s.1 == 3)) ∧ w' = w := by
  rcases wf_cases h with ⟨x, o, rfl, h0, h1⟩ | ⟨x, y, rfl, h0, h1⟩ | ⟨x, y, f, rfl, h0, h1, h2⟩ | ⟨x, y, f, rfl, h0, h1, h2⟩
  · rw [txt0]
    have i1 := ix [x, 61, 64, o, 59] 1 1 61 rfl rfl
    go_enter Try.func92, Try.ntmps92
    go_wp2
    go_ret
    exact ⟨rfl, rfl⟩
  · rw [txt1]
    have i1 := ix [x, 61, y, 59] 1 1 61 rfl rfl
    go_enter Try.func92, Try.ntmps92
    go_wp2
    go_ret
    exact ⟨rfl, rfl⟩
  · rw [txt2]
    have i1 := ix [x, 61, y, 46, f, 59] 1 1 61 rfl rfl
    go_enter Try.func92, Try.ntmps92
    go_wp2
    go_ret
    exact ⟨rfl, rfl⟩
  · rw [txt3]
    have i1 := ix [x, 46, f, 61, y, 59] 1 1 46 rfl rfl
    go_enter Try.func92, Try.ntmps92
    go_wp2
    go_ret
    exact ⟨rfl, rfl⟩

theorem told_take_succ {f : List UInt8} {c : UInt8} {k : Nat} (h : k < f.length) : Al.told (f.take (k + 1)) c = (Al.told (f.take k) c || f[k] == c) := by
  unfold Al.told
  rw [List.take_succ_eq_append_getElem h, List.any_append, List.any_cons, List.any_nil, Bool.or_false]
set_option maxHeartbeats 400000 in
theorem Told_any (f : List UInt8) (c : UInt8) (w : World) (hl : f.length ≤ 9223372036854775807) : Calls Try.prog 42 #[.string (bs f), .int .u8 (c.toNat : Nat)] w fun e w' => e = .returned (.bool (Al.told f c)) ∧ w' = w := by
  have hsz : (bs f).size = f.length := rfl
  go_enter Try.func42, Try.ntmps42
  go_wp2
  go_loop [5] (fun i => ∃ k : Nat, k ≤ f.length ∧ i = .int .i64 k ∧ Al.told (f.take k) c = false) (fun i => f.length - (intOf i).toNat)
  case atStart => exact ⟨0, Nat.zero_le _, rfl, by simp [Al.told]⟩
  case round =>
    obtain ⟨k, hk, rfl, hh⟩ := hrel
    have HH := hid hh
    clear hh
    by_cases hlt : k < f.length
    · have hi := ix f k k (f[k].toNat : Nat) rfl (by rw [List.getElem?_eq_getElem hlt]; rfl)
      have HS := hid (told_take_succ (c := c) hlt)
      have HM : Hid (f[k] ∈ f) := List.getElem_mem hlt
      generalize f[k] = d at *
      by_cases e : d = c
      · subst e
        have HT : Hid (Al.told f d = true) := by simp only [Hid, Al.told, List.any_eq_true, beq_iff_eq]; exact ⟨d, HM.out, rfl⟩
        go_wp2
        go_ret
        exact ⟨by rw [HT.out]; rfl, rfl⟩
      · have HE : Hid ((d == c) = false) := by simp [Hid, e]
        have hb : ((d.toNat : Int) == (c.toNat : Int)) = false := beq_eq_false_iff_ne.2 (fun h => e (UInt8.toNat_inj.1 (by omega)))
        go_wp2
        go_round
        case rel => exact ⟨k + 1, by omega, by go_num, by rw [HS.out, HH.out, HE.out]; rfl⟩
        case measure => simp [intOf]; omega
    · go_wp2
      go_ret
      exact ⟨by have := HH.out; rw [List.take_of_length_le (by omega)] at this; rw [this]; rfl, rfl⟩
end Go.Proofs.Ytmjlcajcobbcgab

namespace Go.Proofs.Ytmjlcajcobbcgab
open Go.RowKit

/-- A table in memory, at block g. -/
def tbl (T : Al.Tb) : Array Value := ((List.range 144).map fun i => Value.bool (T (i / 12) (i % 12))).toArray
def Tab (w : World) (g : Nat) (T : Al.Tb) : Prop := w.heap[g]? = some (.cells (tbl T) 4 (0, 0))
theorem tbl_size (T : Al.Tb) : (tbl T).size = 144 := by simp [tbl]
theorem Tab.cell {w : World} {g : Nat} {T : Al.Tb} (h : Tab w g T) {v o : Nat} (hv : v < 12) (ho : o < 12) : w.cell? ⟨g, v * 12 + o, none⟩ = some (.bool (T v o)) := by
  rw [block_cell (cur := tbl T) h]
  have h1 : v * 12 + o < 144 := by omega
  simp only [tbl, List.getElem?_toArray, List.getElem?_map, List.getElem?_range h1, Option.map_some]
  rw [show (v * 12 + o) / 12 = v from by omega, show (v * 12 + o) % 12 = o from by omega]
theorem Tab.free {w : World} {g : Nat} {T : Al.Tb} (h : Tab w g T) (j : Nat) : w.frozen? ⟨g, j, none⟩ = false := block_free (cur := tbl T) h
theorem tbl_set (T : Al.Tb) {v o : Nat} (_hv : v < 12) (ho : o < 12) : (tbl T).setIfInBounds (v * 12 + o) (.bool true) = tbl (Al.setT T v o) := by
  apply Array.ext
  · simp [tbl]
  · intro i h1 h2
    have hi : i < 144 := by simpa [tbl] using h2
    rw [Array.getElem_setIfInBounds (by simpa [tbl] using hi)]
    simp only [tbl, List.getElem_toArray, List.getElem_map, List.getElem_range, Al.setT]
    by_cases e : v * 12 + o = i
    · rw [if_pos e, ← e, show (v * 12 + o) / 12 = v from by omega, show (v * 12 + o) % 12 = o from by omega]; simp
    · rw [if_neg e]
      have : ¬ (i / 12 = v ∧ i % 12 = o) := by omega
      by_cases e1 : i / 12 = v
      · have e2 : ¬ i % 12 = o := fun h => this ⟨e1, h⟩
        simp [e2]
      · simp [e1]
theorem Tab.set {w : World} {g : Nat} {T : Al.Tb} (h : Tab w g T) {v o : Nat} (hv : v < 12) (ho : o < 12) : Tab (w.setCell ⟨g, v * 12 + o, none⟩ (.bool true)) g (Al.setT T v o) := by
  unfold Tab at *
  rw [block_setCell _ h, tbl_set T hv ho]

theorem any_take_succ (p : Nat → Bool) (k : Nat) : (List.range (k + 1)).any p = ((List.range k).any p || p k) := by
  rw [List.range_succ, List.any_append]; simp

set_option maxRecDepth 100000 in
set_option maxHeartbeats 400000 in
theorem Meet_any (g : Nat) (T : Al.Tb) (v u : Nat) (w : World) (ht : Tab w g T) (hv : v < 12) (hu : u < 12) :
    Calls Try.prog 79 #[.slice (some ⟨g, 0, none⟩) 144 144, .int .i64 v, .int .i64 u] w fun e w' => e = .returned (.bool (Al.meetT T v u)) ∧ w' = w := by
  have HT := hid ht
  clear ht
  go_enter Try.func79, Try.ntmps79
  go_wp2
  go_loop [7] (fun i => ∃ k : Nat, k ≤ 12 ∧ i = .int .i64 k ∧ ((List.range k).any fun o => T v o && T u o) = false) (fun i => 12 - (intOf i).toNat)
  case atStart => exact ⟨0, Nat.zero_le _, rfl, rfl⟩
  case round =>
    obtain ⟨k, hk, rfl, hh⟩ := hrel
    have HH := hid hh
    clear hh
    by_cases hlt : k < 12
    · have c1 := HT.out.cell hv hlt
      have c2 := HT.out.cell hu hlt
      have HS := hid (any_take_succ (fun o => T v o && T u o) k)
      have HM : Hid ((T v k && T u k) = true → Al.meetT T v u = true) := fun h => by
        simp only [Al.meetT, List.any_eq_true, List.mem_range]; exact ⟨k, hlt, h⟩
      cases e1 : T v k with
      | false =>
        rw [e1] at c1
        have HE := hid e1
        clear e1
        go_wp2
        go_round
        case rel => exact ⟨k + 1, by omega, by go_num, by rw [HS.out, HH.out, HE.out]; rfl⟩
        case measure => simp [intOf]; omega
      | true =>
        rw [e1] at c1
        have HE := hid e1
        clear e1
        cases e2 : T u k with
        | false =>
          rw [e2] at c2
          have HE2 := hid e2
          clear e2
          go_wp2
          go_round
          case rel => exact ⟨k + 1, by omega, by go_num, by rw [HS.out, HH.out, HE.out, HE2.out]; rfl⟩
          case measure => simp [intOf]; omega
        | true =>
          rw [e2] at c2
          have HE2 := hid e2
          clear e2
          go_wp2
          go_ret
          exact ⟨by rw [HM.out (by rw [HE.out, HE2.out]; rfl)]; rfl, rfl⟩
    · have hk12 : k = 12 := by omega
      subst hk12
      go_wp2
      go_ret
      exact ⟨by have := HH.out; rw [show Al.meetT T v u = false from this]; rfl, rfl⟩

/-- 'within' behind k sites. -/
def wTo (T : Al.Tb) (v u k : Nat) : Al.Tb := fun a o => T a o || (a == v && (decide (o < k) && T u o))
theorem wTo_zero (T : Al.Tb) (v u : Nat) : wTo T v u 0 = T := by funext a o; simp [wTo]
theorem wTo_u (T : Al.Tb) (v u k : Nat) : wTo T v u k u k = T u k := by simp [wTo]
theorem wTo_v (T : Al.Tb) (v u k : Nat) : wTo T v u k v k = T v k := by simp [wTo]
theorem wTo_hit {T : Al.Tb} {v u k : Nat} (h : T u k = true) : Al.setT (wTo T v u k) v k = wTo T v u (k + 1) := by
  funext a o
  simp only [Al.setT, wTo]
  by_cases ea : a = v
  · subst ea
    by_cases eo : o = k
    · subst eo; simp [h]
    · have e1 : decide (o < k + 1) = decide (o < k) := by simp; omega
      simp [eo, e1]
  · have eb : (a == v) = false := beq_eq_false_iff_ne.2 ea
    simp only [eb, Bool.false_and, Bool.or_false]
theorem wTo_miss {T : Al.Tb} {v u k : Nat} (h : T u k = false ∨ T v k = true) : wTo T v u k = wTo T v u (k + 1) := by
  funext a o
  simp only [wTo]
  by_cases ea : a = v
  · subst ea
    by_cases eo : o = k
    · subst eo
      rcases h with h | h <;> simp [h]
    · have e1 : decide (o < k + 1) = decide (o < k) := by simp; omega
      simp [e1]
  · have eb : (a == v) = false := beq_eq_false_iff_ne.2 ea
    simp only [eb, Bool.false_and, Bool.or_false]
theorem tbl_congr {T S : Al.Tb} (h : ∀ v o, o < 12 → T v o = S v o) : tbl T = tbl S := by
  unfold tbl
  congr 1
  apply List.map_congr_left
  intro i _
  rw [h _ _ (by omega)]
theorem tbl_within (T : Al.Tb) (v u : Nat) : tbl (wTo T v u 12) = tbl (Al.withinT T v u) := tbl_congr fun a o ho => by simp [wTo, Al.withinT, ho]

theorem grown_setCell {w0 w : World} {g j : Nat} {x : Value} (h : w0.grownBy w (some g)) : w0.grownBy (w.setCell ⟨g, j, none⟩ x) (some g) :=
  ⟨h.os, h.tape, h.output, by simpa [World.setCell] using h.size, fun k hk hne => by rw [Below.heap_setCell _ _ _ _ (by simpa using hne)]; exact h.block k hk hne⟩
theorem grown_refl (w : World) (r : Option Nat) : w.grownBy w r := ⟨rfl, rfl, rfl, Nat.le_refl _, fun _ _ _ => rfl⟩

set_option maxRecDepth 100000 in
set_option maxHeartbeats 1000000 in
theorem within_any (g : Nat) (T : Al.Tb) (v u : Nat) (w : World) (ht : Tab w g T) (hv : v < 12) (hu : u < 12) :
    Calls Try.prog 101 #[.slice (some ⟨g, 0, none⟩) 144 144, .int .i64 v, .int .i64 u] w fun e w' => e = .returned (.bool (Al.newBit T v u)) ∧ Tab w' g (Al.withinT T v u) ∧ w.grownBy w' (some g) := by
  go_enter Try.func101, Try.ntmps101
  go_wp2
  go_loopw [7, 8] (fun d i wr => ∃ k : Nat, k ≤ 12 ∧ i = .int .i64 k ∧ d = .bool ((List.range k).any fun o => T u o && !T v o) ∧ Tab wr g (wTo T v u k) ∧ w.grownBy wr (some g)) (fun _ i _ => 12 - (intOf i).toNat)
  case atStart => exact ⟨0, Nat.zero_le _, rfl, rfl, by rw [wTo_zero]; exact ht, grown_refl _ _⟩
  case round =>
    obtain ⟨k, hk, rfl, rfl, htab, hgr⟩ := hrel
    clear ht
    by_cases hlt : k < 12
    · have c1 := htab.cell hu hlt
      have c2 := htab.cell hv hlt
      have f2 := htab.free (v * 12 + k)
      rw [wTo_u] at c1
      rw [wTo_v] at c2
      have HS := hid (any_take_succ (fun o => T u o && !T v o) k)
      generalize (List.range k).any (fun o => T u o && !T v o) = D at *
      have HTB := hid htab
      have HG := hid hgr
      clear htab hgr
      cases e1 : T u k with
      | false =>
        rw [e1] at c1
        have HW := hid (wTo_miss (T := T) (v := v) (u := u) (k := k) (.inl e1))
        have HD : Hid ((D || (T u k && !T v k)) = D) := by rw [Hid, e1]; simp
        clear e1
        go_wp2
        go_roundw
        case rel => exact ⟨k + 1, by omega, by go_num, by rw [HS.out, HD.out], by rw [← HW.out]; exact HTB.out, HG.out⟩
        case measure => simp [intOf]; omega
      | true =>
        rw [e1] at c1
        cases e2 : T v k with
        | true =>
          rw [e2] at c2
          have HW := hid (wTo_miss (T := T) (v := v) (u := u) (k := k) (.inr e2))
          have HD : Hid ((D || (T u k && !T v k)) = D) := by rw [Hid, e1, e2]; simp
          clear e1 e2
          go_wp2
          go_roundw
          case rel => exact ⟨k + 1, by omega, by go_num, by rw [HS.out, HD.out], by rw [← HW.out]; exact HTB.out, HG.out⟩
          case measure => simp [intOf]; omega
        | false =>
          rw [e2] at c2
          have HW := hid (wTo_hit (T := T) (v := v) (u := u) (k := k) e1)
          have HD : Hid ((D || (T u k && !T v k)) = true) := by rw [Hid, e1, e2]; simp
          clear e1 e2
          go_wp2
          go_roundw
          case rel => exact ⟨k + 1, by omega, by go_num, by rw [HS.out, HD.out], by rw [← HW.out]; exact HTB.out.set hv hlt, grown_setCell HG.out⟩
          case measure => simp [intOf]; omega
    · have hk12 : k = 12 := by omega
      subst hk12
      have HTB : Hid (Tab wr g (Al.withinT T v u)) := by unfold Hid; unfold Tab at *; rw [← tbl_within]; exact htab
      clear htab
      go_wp2
      go_ret
      exact ⟨rfl, HTB.out, hgr⟩
end Go.Proofs.Ytmjlcajcobbcgab

namespace Go.Proofs.Ytmjlcajcobbcgab
open Go.RowKit

theorem fold_succ {α β : Type} (st : α → β → α) (a : α) {A : List β} {k : Nat} (h : k < A.length) : (A.take (k + 1)).foldl st a = st ((A.take k).foldl st a) A[k] := by
  rw [List.take_succ_eq_append_getElem h, List.foldl_append]; rfl

theorem Var_ok (c : UInt8) (w : World) (h : Al.vB c.toNat = true) : Calls Try.prog 40 #[.int .u8 (c.toNat : Nat)] w fun e w' => e = .returned (.int .i64 (Al.vi c : Nat)) ∧ w' = w := by
  refine (Var_any (c.toNat : Nat) w (by omega) (by have := c.toNat_lt; omega)).mono ?_
  rintro e w' ⟨rfl, rfl⟩
  have := v_bd h
  refine ⟨ret_int ?_, rfl⟩
  unfold varI inI Al.vi
  rw [if_neg (by omega)]; omega
theorem Site_ok (c : UInt8) (w : World) (h : Al.oB c.toNat = true) : Calls Try.prog 87 #[.int .u8 (c.toNat : Nat)] w fun e w' => e = .returned (.int .i64 (Al.si c : Nat)) ∧ w' = w := by
  refine (Site_any (c.toNat : Nat) w (by omega) (by have := c.toNat_lt; omega)).mono ?_
  rintro e w' ⟨rfl, rfl⟩
  have := o_bd h
  refine ⟨ret_int ?_, rfl⟩
  unfold siteI inI Al.si
  rw [if_neg (by omega)]; omega
theorem vi_lt {c : UInt8} (h : Al.vB c.toNat = true) : Al.vi c < 12 := by have := v_bd h; unfold Al.vi; omega
theorem si_lt {c : UInt8} (h : Al.oB c.toNat = true) : Al.si c < 12 := by have := o_bd h; unfold Al.si; omega

theorem loadStep_other {tld : Bool} {s p : Al.St} {a : Al.Tb × Bool} (h : p.1 ≠ 3) : Al.loadStep tld s a p = a := by
  unfold Al.loadStep; rw [if_neg (fun c => h c.1)]

theorem Tab.drew {w : World} {g : Nat} {T : Al.Tb} (h : Tab w g T) (n : Nat) : Tab (w.drewN n) g T := h
theorem grown_drewN {w0 w : World} {r : Option Nat} (h : w0.grownBy w r) (n : Nat) : w0.grownBy (w.drewN n) r := ⟨h.os, h.tape, h.output, h.size, h.block⟩

set_option maxRecDepth 100000 in
set_option maxHeartbeats 2000000 in
theorem loads_some (A : List Al.St) (gl cap g : Nat) (T : Al.Tb) (x y f : UInt8) (tld : Bool) (w : World) (hA : ∀ a ∈ A, Al.Wf a)
    (hc : ∀ k (h : k < A.length), w.cell? ⟨gl, k, none⟩ = some (.string (bs (Al.txt A[k])))) (hgl : gl ≠ g) (hcap : A.length ≤ 100000)
    (ht : Tab w g T) (h0 : Al.vB x.toNat = true) (h1 : Al.vB y.toNat = true) :
    Calls Try.prog 103 #[.slice (some ⟨gl, 0, none⟩) A.length cap, .slice (some ⟨g, 0, none⟩) 144 144, .string (bs [x, 61, y, 46, f, 59]), .bool tld] w fun e w' =>
      e = .returned (.bool (Al.loadsP A tld (2, x, y, 0, f) T).2) ∧ Tab w' g (Al.loadsP A tld (2, x, y, 0, f) T).1 ∧ w.grownBy w' (some g) := by
  have s0 := ix [x, 61, y, 46, f, 59] 0 0 x.toNat rfl rfl
  have s2 := ix [x, 61, y, 46, f, 59] 2 2 y.toNat rfl rfl
  have s4 := ix [x, 61, y, 46, f, 59] 4 4 f.toNat rfl rfl
  have HC := hid hc
  have HA := hid hA
  have H0 := hid h0
  have H1 := hid h1
  clear hc hA h0 h1
  have HLP : Hid (Al.loadsP A tld (2, x, y, 0, f) T = A.foldl (Al.loadStep tld (2, x, y, 0, f)) (T, false)) := rfl
  go_enter Try.func103, Try.ntmps103
  go_wp2_with fail
  go_loopw [9, 10] (fun d i wr => ∃ k : Nat, k ≤ A.length ∧ i = .int .i64 k ∧ d = .bool ((A.take k).foldl (Al.loadStep tld (2, x, y, 0, f)) (T, false)).2 ∧ Tab wr g ((A.take k).foldl (Al.loadStep tld (2, x, y, 0, f)) (T, false)).1 ∧ w.grownBy wr (some g)) (fun _ i _ => A.length - (intOf i).toNat)
  case atStart => exact ⟨0, Nat.zero_le _, rfl, rfl, ht, grown_refl _ _⟩
  case round =>
    obtain ⟨k, hk, rfl, rfl, htab, hgr⟩ := hrel
    clear ht
    by_cases hlt : k < A.length
    · have HFS := hid (fold_succ (Al.loadStep tld (2, x, y, 0, f)) (T, false) hlt)
      generalize (A.take k).foldl (Al.loadStep tld (2, x, y, 0, f)) (T, false) = acc at *
      obtain ⟨T1, D⟩ := acc
      have hcell : wr.cell? ⟨gl, k, none⟩ = some (.string (bs (Al.txt A[k]))) := hgr.cell (HC.out k hlt) (by simpa using hgl)
      have hwf := HA.out A[k] (List.getElem_mem hlt)
      have HIS := hid (fun wx => isStore_any A[k] wx hwf)
      generalize A[k] = p at *
      have HTB := hid htab
      have HG := hid hgr
      clear htab hgr
      simp only
      by_cases hk3 : p.1 = 3
      · obtain ⟨px, py, pf, rfl, g0, g1, g2⟩ : ∃ px py pf, p = (3, px, py, 0, pf) ∧ Al.vB px.toNat = true ∧ Al.vB py.toNat = true ∧ Al.fB pf.toNat = true := by
          rcases wf_cases hwf with ⟨_, _, rfl, _⟩ | ⟨_, _, rfl, _⟩ | ⟨_, _, _, rfl, _⟩ | ⟨a, b, c, rfl, q⟩
          · simp at hk3
          · simp at hk3
          · simp at hk3
          · exact ⟨a, b, c, rfl, q⟩
        rw [txt3] at HIS hcell
        have p0 := ix [px, 46, pf, 61, py, 59] 0 0 px.toNat rfl rfl
        have p2 := ix [px, 46, pf, 61, py, 59] 2 2 pf.toNat rfl rfl
        have p4 := ix [px, 46, pf, 61, py, 59] 4 4 py.toNat rfl rfl
        have hb : ((3, px, py, 0, pf).1 == 3) = true := rfl
        rw [hb] at HIS
        have HVX := hid (fun wx => Var_ok px wx g0)
        have HVY := hid (fun wx => Var_ok y wx H1.out)
        have lx := vi_lt g0
        have ly := vi_lt H1.out
        have lX := vi_lt H0.out
        have lY := vi_lt g1
        have HG0 := hid g0
        have HG1 := hid g1
        clear hwf hb hk3 g0 g1 g2
        by_cases e : pf = f
        · subst e
          have hpp : ((pf.toNat : Int) == (pf.toNat : Int)) = true := by simp
          go_wp2_with fail
          go_quiet ((go_at_call 92; exact Calls.quiet_of_same (HIS.out _)))
          go_wp2_with fail
          have HTB2 : Tab (wr.drewN nq) g T1 := HTB.out
          have HG2 : w.grownBy (wr.drewN nq) (some g) := grown_drewN HG.out _
          generalize wr.drewN nq = wq at *
          have gX := HG0.out
          have gY := H1.out
          have HTQ := hid HTB2
          have HGQ := hid HG2
          clear HTB2 HG2
          have HME0 := fun (wx : World) (h : Tab wx g T1) => Meet_any g T1 (Al.vi px) (Al.vi y) wx h lx ly
          cases hm : Al.meetT T1 (Al.vi px) (Al.vi y) with
          | true =>
            rw [hm] at HME0
            have HME := hid HME0
            have HF : Hid (Al.loadStep tld (2, x, y, 0, pf) (T1, D) (3, px, py, 0, pf) = (Al.withinT T1 (Al.vi x) (Al.vi py), D || Al.newBit T1 (Al.vi x) (Al.vi py))) := by unfold Hid Al.loadStep; rw [if_pos ⟨rfl, rfl⟩, if_pos (.inl hm)]
            clear HME0 hm
            have HWI := hid (fun wx (h : Tab wx g T1) => within_any g T1 (Al.vi x) (Al.vi py) wx h lX lY)
            have gX2 := H0.out
            have gY2 := HG1.out
            obtain ⟨nb, hnb⟩ : ∃ nb, Al.newBit T1 (Al.vi x) (Al.vi py) = nb := ⟨_, rfl⟩
            rw [hnb] at HWI HF
            clear hnb
            go_quiet ((first | (go_at_call 40; exact Calls.quiet_of_same (Var_ok _ _ (by assumption))) | (go_at_call 79; exact Calls.quiet_of_same (HME.out _ HTQ.out))))
            have HTB3 : Tab (wq.drewN nq) g T1 := HTQ.out
            have HG3 : w.grownBy (wq.drewN nq) (some g) := grown_drewN HGQ.out _
            generalize wq.drewN nq = wp at *
            have HTP := hid HTB3
            have HGP := hid HG3
            clear HTB3 HG3
            go_wp2_with fail
            rcases D with _ | _
            all_goals
              go_region_held3 (fun _ => True) (trivial)
                ((first | (go_at_call 40; refine (Var_ok _ _ (by assumption)).mono ?_; rintro e w' ⟨rfl, rfl⟩) | (go_at_call 101; refine (HWI.out _ (by exact HTP.out)).mono ?_; rintro e w3 ⟨rfl, ht3, hg3⟩)))
              all_goals go_wp2_with fail
              all_goals exact ⟨⟨k + 1, by omega, by go_num, by simp only [HFS.out, HF.out, Bool.false_or, Bool.true_or], by rw [HFS.out, HF.out]; exact ht3, grown_trans (show w.grownBy wp.drew (some g) from grown_drewN HGP.out 1) hg3⟩, by simp [intOf]; omega⟩
          | false =>
            rw [hm] at HME0
            have HME := hid HME0
            clear HME0
            cases tld with
            | true =>
              have HF : Hid (Al.loadStep true (2, x, y, 0, pf) (T1, D) (3, px, py, 0, pf) = (T1, D)) := by unfold Hid Al.loadStep; rw [if_pos ⟨rfl, rfl⟩, if_neg (by rw [hm]; simp)]
              clear hm
              go_quiet ((first | (go_at_call 40; exact Calls.quiet_of_same (Var_ok _ _ (by assumption))) | (go_at_call 79; exact Calls.quiet_of_same (HME.out _ HTQ.out))))
              go_wp2_with fail
              go_roundw
              case rel => exact ⟨k + 1, by omega, by go_num, by rw [HFS.out, HF.out], by rw [HFS.out, HF.out]; exact HTQ.out, grown_drewN HGQ.out _⟩
              case measure => simp [intOf]; omega
            | false =>
              have HF : Hid (Al.loadStep false (2, x, y, 0, pf) (T1, D) (3, px, py, 0, pf) = (Al.withinT T1 (Al.vi x) (Al.vi py), D || Al.newBit T1 (Al.vi x) (Al.vi py))) := by unfold Hid Al.loadStep; rw [if_pos ⟨rfl, rfl⟩, if_pos (.inr rfl)]
              clear hm
              have HWI := hid (fun wx (h : Tab wx g T1) => within_any g T1 (Al.vi x) (Al.vi py) wx h lX lY)
              have gX2 := H0.out
              have gY2 := HG1.out
              obtain ⟨nb, hnb⟩ : ∃ nb, Al.newBit T1 (Al.vi x) (Al.vi py) = nb := ⟨_, rfl⟩
              rw [hnb] at HWI HF
              clear hnb
              go_quiet ((first | (go_at_call 40; exact Calls.quiet_of_same (Var_ok _ _ (by assumption))) | (go_at_call 79; exact Calls.quiet_of_same (HME.out _ HTQ.out))))
              have HTB3 : Tab (wq.drewN nq) g T1 := HTQ.out
              have HG3 : w.grownBy (wq.drewN nq) (some g) := grown_drewN HGQ.out _
              generalize wq.drewN nq = wp at *
              have HTP := hid HTB3
              have HGP := hid HG3
              clear HTB3 HG3
              go_wp2_with fail
              rcases D with _ | _
              all_goals
                go_region_held3 (fun _ => True) (trivial)
                  ((first | (go_at_call 40; refine (Var_ok _ _ (by assumption)).mono ?_; rintro e w' ⟨rfl, rfl⟩) | (go_at_call 101; refine (HWI.out _ (by exact HTP.out)).mono ?_; rintro e w3 ⟨rfl, ht3, hg3⟩)))
                all_goals go_wp2_with fail
                all_goals exact ⟨⟨k + 1, by omega, by go_num, by simp only [HFS.out, HF.out, Bool.false_or, Bool.true_or], by rw [HFS.out, HF.out]; exact ht3, grown_trans (show w.grownBy wp.drew (some g) from grown_drewN HGP.out 1) hg3⟩, by simp [intOf]; omega⟩
        · have HF : Hid (Al.loadStep tld (2, x, y, 0, f) (T1, D) (3, px, py, 0, pf) = (T1, D)) := by unfold Hid Al.loadStep; rw [if_neg (fun c => e c.2)]
          have hb : ((pf.toNat : Int) == (f.toNat : Int)) = false := beq_eq_false_iff_ne.2 (fun h => e (UInt8.toNat_inj.1 (by omega)))
          clear e
          go_wp2_with fail
          go_quiet ((go_at_call 92; exact Calls.quiet_of_same (HIS.out _)))
          go_wp2_with fail
          go_roundw
          case rel => exact ⟨k + 1, by omega, by go_num, by rw [HFS.out, HF.out], by rw [HFS.out, HF.out]; exact HTB.out, grown_drewN HG.out _⟩
          case measure => simp [intOf]; omega
      · have HF : Hid (Al.loadStep tld (2, x, y, 0, f) (T1, D) p = (T1, D)) := loadStep_other hk3
        have hb : (p.1 == 3) = false := by simp [hk3]
        rw [hb] at HIS
        clear hwf hb hk3
        generalize Al.txt p = l at *
        go_wp2_with fail
        go_quiet ((go_at_call 92; exact Calls.quiet_of_same (HIS.out _)))
        go_wp2_with fail
        go_roundw
        case rel => exact ⟨k + 1, by omega, by go_num, by rw [HFS.out, HF.out], by rw [HFS.out, HF.out]; exact HTB.out, grown_drewN HG.out _⟩
        case measure => simp [intOf]; omega
    · rw [List.take_of_length_le (by omega)] at htab ⊢
      rw [← HLP.out] at htab ⊢
      have HTB := hid htab
      clear htab
      go_wp2
      go_ret
      exact ⟨rfl, HTB.out, hgr⟩
end Go.Proofs.Ytmjlcajcobbcgab

namespace Go.Proofs.Ytmjlcajcobbcgab
open Go.RowKit

set_option maxRecDepth 100000 in
set_option maxHeartbeats 4000000 in
theorem round_some (A : List Al.St) (gl cap g : Nat) (T : Al.Tb) (f : List UInt8) (w : World) (hA : ∀ a ∈ A, Al.Wf a)
    (hc : ∀ k (h : k < A.length), w.cell? ⟨gl, k, none⟩ = some (.string (bs (Al.txt A[k])))) (hgl : gl ≠ g) (hcap : A.length ≤ 100000)
    (ht : Tab w g T) (hf : f.length ≤ 9223372036854775807) :
    Calls Try.prog 96 #[.slice (some ⟨gl, 0, none⟩) A.length cap, .slice (some ⟨g, 0, none⟩) 144 144, .string (bs f)] w fun e w' =>
      e = .returned (.bool (Al.roundP A f T).2) ∧ Tab w' g (Al.roundP A f T).1 ∧ w.grownBy w' (some g) := by
  have HC := hid hc
  have HA := hid hA
  clear hc hA
  have HLP : Hid (Al.roundP A f T = A.foldl (Al.stmtStep A f) (T, false)) := rfl
  have HTO := hid (fun c wx => Told_any f c wx hf)
  clear hf
  go_enter Try.func96, Try.ntmps96
  go_wp2_with fail
  go_loopw [7, 8] (fun d i wr => ∃ k : Nat, k ≤ A.length ∧ i = .int .i64 k ∧ d = .bool ((A.take k).foldl (Al.stmtStep A f) (T, false)).2 ∧ Tab wr g ((A.take k).foldl (Al.stmtStep A f) (T, false)).1 ∧ w.grownBy wr (some g)) (fun _ i _ => A.length - (intOf i).toNat)
  case atStart => exact ⟨0, Nat.zero_le _, rfl, rfl, ht, grown_refl _ _⟩
  case round =>
    obtain ⟨k, hk, rfl, rfl, htab, hgr⟩ := hrel
    clear ht
    by_cases hlt : k < A.length
    · have HFS := hid (fold_succ (Al.stmtStep A f) (T, false) hlt)
      generalize (A.take k).foldl (Al.stmtStep A f) (T, false) = acc at *
      obtain ⟨T1, D⟩ := acc
      have hcell : wr.cell? ⟨gl, k, none⟩ = some (.string (bs (Al.txt A[k]))) := hgr.cell (HC.out k hlt) (by simpa using hgl)
      have hwf := HA.out A[k] (List.getElem_mem hlt)
      have HIN := hid (fun wx => isNew_any A[k] wx hwf)
      have HIC := hid (fun wx => isCopy_any A[k] wx hwf)
      have HIL := hid (fun wx => isLoad_any A[k] wx hwf)
      have HCR : Hid (∀ wx, w.grownBy wx (some g) → ∀ k (h : k < A.length), wx.cell? ⟨gl, k, none⟩ = some (.string (bs (Al.txt A[k])))) := fun wx hgx k h => hgx.cell (HC.out k h) (by simpa using hgl)
      generalize A[k] = p at *
      simp only
      rcases wf_cases hwf with ⟨x, o, rfl, h0, h1⟩ | ⟨x, y, rfl, h0, h1⟩ | ⟨x, y, pf, rfl, h0, h1, h2⟩ | ⟨x, y, pf, rfl, h0, h1, h2⟩
      · rw [txt0] at hcell HIN HIC HIL
        have s0 := ix [x, 61, 64, o, 59] 0 0 x.toNat rfl rfl
        have s3 := ix [x, 61, 64, o, 59] 3 3 o.toNat rfl rfl
        have lx := vi_lt h0
        have lo := si_lt h1
        have HF : Hid (Al.stmtStep A f (T1, D) (0, x, 0, o, 0) = (Al.setT T1 (Al.vi x) (Al.si o), D || !T1 (Al.vi x) (Al.si o))) := rfl
        have hin : ((0, x, 0, o, 0).1 == 0) = true := rfl
        rw [hin] at HIN
        have HVX := hid (fun wx => Var_ok x wx h0)
        have HSO := hid (fun wx => Site_ok o wx h1)
        have hw1 : IntKind.i64.wrap ((Al.vi x : Int) * 12) = (Al.vi x : Int) * 12 := IntWalk.i64_in _ ⟨by omega, by omega⟩
        have hw2 : IntKind.i64.wrap ((Al.vi x : Int) * 12 + (Al.si o : Int)) = (Al.vi x : Int) * 12 + (Al.si o : Int) := IntWalk.i64_in _ ⟨by omega, by omega⟩
        generalize Al.vi x = V at *
        generalize Al.si o = O at *
        have hce := htab.cell lx lo
        have hfr := htab.free (V * 12 + O)
        have HTB := hid htab
        have HG := hid hgr
        clear htab hgr hwf hin h0 h1
        go_wp2_with (go_at_call 93; refine (HIN.out _).mono ?_; rintro e w' ⟨rfl, rfl⟩)
        go_quiet ((first | (go_at_call 40; exact Calls.quiet_of_same (HVX.out _)) | (go_at_call 87; exact Calls.quiet_of_same (HSO.out _))))
        obtain ⟨B, hB⟩ : ∃ B, T1 V O = B := ⟨_, rfl⟩
        rw [hB] at hce HF
        have HBB := hid hB
        clear hB
        rcases D with _ | _
        all_goals
          go_wp2_with fail
          exact ⟨⟨k + 1, by omega, by go_num, by simp only [HFS.out, HF.out, Bool.false_or, Bool.true_or], by rw [HFS.out, HF.out]; exact Tab.set (HTB.out) lx lo, grown_setCell (grown_drewN HG.out _)⟩, by simp [intOf]; omega⟩
      · rw [txt1] at hcell HIN HIC HIL
        have s0 := ix [x, 61, y, 59] 0 0 x.toNat rfl rfl
        have s2 := ix [x, 61, y, 59] 2 2 y.toNat rfl rfl
        have lx := vi_lt h0
        have ly := vi_lt h1
        have HF : Hid (Al.stmtStep A f (T1, D) (1, x, y, 0, 0) = (Al.withinT T1 (Al.vi x) (Al.vi y), D || Al.newBit T1 (Al.vi x) (Al.vi y))) := rfl
        have hin : ((1, x, y, 0, 0).1 == 0) = false := rfl
        have hic : ((1, x, y, 0, 0).1 == 1) = true := rfl
        rw [hin] at HIN
        rw [hic] at HIC
        have HWI := hid (fun wx (h : Tab wx g T1) => within_any g T1 (Al.vi x) (Al.vi y) wx h lx ly)
        obtain ⟨nb, hnb⟩ : ∃ nb, Al.newBit T1 (Al.vi x) (Al.vi y) = nb := ⟨_, rfl⟩
        rw [hnb] at HWI HF
        have HTB := hid htab
        have HG := hid hgr
        clear htab hgr hwf hin hic hnb
        go_wp2_with (first | (go_at_call 93; refine (HIN.out _).mono ?_; rintro e w' ⟨rfl, rfl⟩) | (go_at_call 94; refine (HIC.out _).mono ?_; rintro e w' ⟨rfl, rfl⟩))
        rcases D with _ | _
        all_goals
          go_region_held3 (fun _ => True) (trivial)
            ((first | (go_at_call 40; refine (Var_ok _ _ (by assumption)).mono ?_; rintro e w' ⟨rfl, rfl⟩) | (go_at_call 101; refine (HWI.out _ (by exact HTB.out)).mono ?_; rintro e w3 ⟨rfl, ht3, hg3⟩)))
          all_goals go_wp2_with fail
          all_goals exact ⟨⟨k + 1, by omega, by go_num, by simp only [HFS.out, HF.out, Bool.false_or, Bool.true_or], by rw [HFS.out, HF.out]; exact ht3, grown_trans (show w.grownBy _ (some g) from grown_drewN HG.out 1) hg3⟩, by simp [intOf]; omega⟩
      · rw [txt2] at hcell HIN HIC HIL
        have s4 := ix [x, 61, y, 46, pf, 59] 4 4 pf.toNat rfl rfl
        have HF : Hid (Al.stmtStep A f (T1, D) (2, x, y, 0, pf) = ((Al.loadsP A (Al.told f pf) (2, x, y, 0, pf) T1).1, D || (Al.loadsP A (Al.told f pf) (2, x, y, 0, pf) T1).2)) := rfl
        have hin : ((2, x, y, 0, pf).1 == 0) = false := rfl
        have hic : ((2, x, y, 0, pf).1 == 1) = false := rfl
        have hil : ((2, x, y, 0, pf).1 == 2) = true := rfl
        rw [hin] at HIN
        rw [hic] at HIC
        rw [hil] at HIL
        have HTP := hid (fun wx => HTO.out pf wx)
        have HLO := hid (fun tl wx (hgx : w.grownBy wx (some g)) (h : Tab wx g T1) => loads_some A gl cap g T1 x y pf tl wx HA.out (HCR.out wx hgx) hgl hcap h h0 h1)
        obtain ⟨tl, htl⟩ : ∃ tl, Al.told f pf = tl := ⟨_, rfl⟩
        rw [htl] at HF HTP
        have HLT := hid (HLO.out tl)
        generalize Al.loadsP A tl (2, x, y, 0, pf) T1 = LP at *
        obtain ⟨LT, LD⟩ := LP
        simp only at HF HLT
        have HTB := hid htab
        have HG := hid hgr
        clear htab hgr hwf hin hic hil h0 h1 h2 htl HLO
        go_wp2_with (first | (go_at_call 93; refine (HIN.out _).mono ?_; rintro e w' ⟨rfl, rfl⟩) | (go_at_call 94; refine (HIC.out _).mono ?_; rintro e w' ⟨rfl, rfl⟩) | (go_at_call 102; refine (HIL.out _).mono ?_; rintro e w' ⟨rfl, rfl⟩) | (go_at_call 42; refine (HTP.out _).mono ?_; rintro e w' ⟨rfl, rfl⟩))
        refine (HLT.out _ HG.out HTB.out).mono ?_
        rintro e w3 ⟨rfl, ht3, hg3⟩
        rcases D with _ | _
        all_goals
          go_wp2_with fail
          exact ⟨⟨k + 1, by omega, by go_num, by simp only [HFS.out, HF.out, Bool.false_or, Bool.true_or], by rw [HFS.out, HF.out]; exact ht3, grown_trans HG.out hg3⟩, by simp [intOf]; omega⟩
      · rw [txt3] at hcell HIN HIC HIL
        have HF : Hid (Al.stmtStep A f (T1, D) (3, x, y, 0, pf) = (T1, D)) := rfl
        have hin : ((3, x, y, 0, pf).1 == 0) = false := rfl
        have hic : ((3, x, y, 0, pf).1 == 1) = false := rfl
        have hil : ((3, x, y, 0, pf).1 == 2) = false := rfl
        rw [hin] at HIN
        rw [hic] at HIC
        rw [hil] at HIL
        have HTB := hid htab
        have HG := hid hgr
        clear htab hgr hwf hin hic hil h0 h1 h2
        go_wp2_with (first | (go_at_call 93; refine (HIN.out _).mono ?_; rintro e w' ⟨rfl, rfl⟩) | (go_at_call 94; refine (HIC.out _).mono ?_; rintro e w' ⟨rfl, rfl⟩) | (go_at_call 102; refine (HIL.out _).mono ?_; rintro e w' ⟨rfl, rfl⟩))
        go_roundw
        case rel => exact ⟨k + 1, by omega, by go_num, by rw [HFS.out, HF.out], by rw [HFS.out, HF.out]; exact HTB.out, HG.out⟩
        case measure => simp [intOf]; omega
    · rw [List.take_of_length_le (by omega)] at htab ⊢
      rw [← HLP.out] at htab ⊢
      have HTB := hid htab
      clear htab
      go_wp2
      go_ret
      exact ⟨rfl, HTB.out, hgr⟩
end Go.Proofs.Ytmjlcajcobbcgab

namespace Go.Proofs.Ytmjlcajcobbcgab
open Go.RowKit

set_option maxHeartbeats 400000 in
theorem round_nil (g : Nat) (f : List UInt8) (w : World) :
    Calls Try.prog 96 #[.slice none 0 0, .slice (some ⟨g, 0, none⟩) 144 144, .string (bs f)] w fun e w' => e = .returned (.bool false) ∧ w' = w := by
  go_enter Try.func96, Try.ntmps96
  go_wp2_with fail
  refine wp_loop_rounds 1 ?_
  rw [rounds_succ]
  go_wp2
  go_ret
  exact ⟨rfl, rfl⟩

/-- Where the list of texts lies apart from the table. -/
theorem round_any (A : List Al.St) (v : Value) (g : Nat) (T : Al.Tb) (f : List UInt8) (w : World) (hA : ∀ a ∈ A, Al.Wf a) (hr : RdS w v (A.map Al.txt)) (hcap : A.length ≤ 100000)
    (ht : Tab w g T) (hf : f.length ≤ 9223372036854775807) :
    Calls Try.prog 96 #[v, .slice (some ⟨g, 0, none⟩) 144 144, .string (bs f)] w fun e w' =>
      e = .returned (.bool (Al.roundP A f T).2) ∧ Tab w' g (Al.roundP A f T).1 ∧ w.grownBy w' (some g) := by
  have hr0 := hr
  rcases hr.shape with ⟨rfl, hn⟩ | ⟨gl, cap, rfl, hl, hm, hg, hc⟩
  · have : A = [] := by simpa using hn
    subst this
    exact (round_nil g f w).mono fun e w' ⟨he, hw⟩ => ⟨he, by subst hw; exact ht, by subst hw; exact grown_refl _ _⟩
  · have hne : gl ≠ g := by
      rintro rfl
      rcases hr0.2 with ⟨h, _⟩ | ⟨g', cap', cur, h, _, hb, _⟩
      · cases h
      · simp only [Value.slice.injEq, Option.some.injEq, Addr.mk.injEq] at h
        obtain ⟨⟨rfl, _⟩, _⟩ := h
        unfold Tab at ht
        rw [ht] at hb
        simp at hb
    rw [List.length_map]
    exact round_some A gl cap g T f w hA (fun k h => by have := hc k (by simpa using h); simpa using this) hne hcap ht hf

theorem make_table (w : World) : (Instr.makeSlice 112 (.int .i64 144) (.int .i64 144)).run Try.prog w = .ok (.slice (some ⟨w.heap.size, 0, none⟩) 144 144) (w.alloc (.cells (tbl Al.emptyT) 4)) := by kernel_rfl
theorem Empty_any (w : World) : Calls Try.prog 95 #[] w fun e w' => e = .returned (.slice (some ⟨w.heap.size, 0, none⟩) 144 144) ∧ w' = w.alloc (.cells (tbl Al.emptyT) 4) := by
  have hmk := make_table
  generalize tbl Al.emptyT = E at *
  go_enter Try.func95, Try.ntmps95
  go_wp2
  go_ret
  exact ⟨rfl, rfl⟩

theorem RdS.stays {w w' : World} {v : Value} {R : List (List UInt8)} {g : Nat} {cur : Array Value} (h : RdS w v R) (hg : w.grownBy w' (some g)) (hb : w.heap[g]? = some (.cells cur 4 (0, 0))) : RdS w' v R := by
  refine ⟨h.1, ?_⟩
  rcases h.2 with hn | ⟨g', cap, cur', rfl, hg0, hg', rest⟩
  · exact .inl hn
  · exact .inr ⟨g', cap, cur', rfl, hg0, by rw [hg.block g' (Array.getElem?_eq_some_iff.1 hg').1 (fun e => by simp at e; rw [e, hb] at hg'; simp at hg')]; exact hg', rest⟩

set_option maxRecDepth 100000 in
set_option maxHeartbeats 1000000 in
theorem Least_any (A : List Al.St) (v : Value) (f : List UInt8) (w : World) (hA : ∀ a ∈ A, Al.Wf a) (hr : RdS w v (A.map Al.txt)) (hcap : A.length ≤ 100000) (hf : f.length ≤ 9223372036854775807) :
    Calls Try.prog 78 #[v, .string (bs f)] w fun e w' => ∃ g T, e = .returned (.slice (some ⟨g, 0, none⟩) 144 144) ∧ w.heap.size ≤ g ∧ Tab w' g T ∧ Al.IsLeast A f T ∧ Below w.heap.size w w' := by
  have HV := hid (Al.varsOk_of_wf hA)
  have HRO := hid (fun T g wx (h1 : RdS wx v (A.map Al.txt)) (h2 : Tab wx g T) => round_any A v g T f wx hA h1 hcap h2 hf)
  have HR := hid hr
  clear hr hA hf
  go_enter Try.func78, Try.ntmps78
  go_wp2_with fail
  refine (Empty_any _).mono ?_
  rintro e w1 ⟨rfl, hw1⟩
  have htab0 : Tab w1 w.heap.size Al.emptyT := by rw [hw1]; exact heap_alloc_new w _
  have hbel0 : Below w.heap.size w w1 := by rw [hw1]; exact (Below.refl _ _).alloc (Nat.le_refl _) _
  clear hw1
  go_wp2_with fail
  go_loopw [6, 7] (fun d i wr => ∃ (k : Nat) (m : Bool) (T : Al.Tb), i = .int .i64 k ∧ k ≤ 145 ∧ d = .bool m ∧ Al.Goes A f k m T ∧ Tab wr w.heap.size T ∧ Below w.heap.size w wr) (fun d i _ => 146 - (intOf i).toNat)
  case atStart => exact ⟨0, true, Al.emptyT, rfl, by omega, rfl, Al.goes_zero A f, htab0, hbel0⟩
  case round =>
    obtain ⟨k, m, T, rfl, hk, rfl, hgo, htab, hbel⟩ := hrel
    clear htab0 hbel0
    by_cases h1 : k ≤ 144
    · cases m with
      | true =>
        have hgo2 := Al.goes_succ HV.out hgo
        have HRT := hid (HRO.out T w.heap.size)
        have hr1 := HR.out.below hbel
        generalize Al.roundP A f T = RP at *
        obtain ⟨T2, m2⟩ := RP
        simp only at HRT hgo2
        have HGO := hid hgo2
        clear hgo hgo2
        go_wp2_with fail
        refine (HRT.out _ hr1 htab).mono ?_
        rintro e w3 ⟨rfl, ht3, hg3⟩
        have hb3 := below_of_grown hbel hg3 hbel.size (Nat.le_refl _)
        clear hr1 htab hg3 hbel
        go_wp2_with fail
        go_roundw
        case rel => exact ⟨k + 1, m2, T2, by go_num, by omega, rfl, HGO.out, ht3, hb3⟩
        case measure => simp [intOf]; omega
      | false =>
        have HL := hid (Al.goes_end hgo (.inr rfl))
        clear hgo
        go_wp2_with fail
        go_ret
        exact ⟨_, T, rfl, Nat.le_refl _, htab, HL.out, hbel⟩
    · have HL := hid (Al.goes_end hgo (.inl (by omega)))
      have hd : decide ((k : Int) ≤ 144) = false := by simp; omega
      clear hgo
      go_wp2_with fail
      go_ret
      exact ⟨_, T, rfl, Nat.le_refl _, htab, HL.out, hbel⟩
end Go.Proofs.Ytmjlcajcobbcgab
