import Derived.Test.YtmjlcajcobbcgabXb
import Derived.Test.YtmjlcajcobbcgabXa
import Derived.OneCell
namespace Go.Proofs.Ytmjlcajcobbcgab
open Go.RowKit

/-- The document's reader of a statement. -/
theorem Stmt_any (s : ByteArray) (k : Nat) (w : World) (h1 : (k : Int) ≤ 1000000) :
    Calls Try.prog 59 #[.string s, .int .i64 k] w fun e w' => e = .returned (.tuple #[.int .i64 ((Al.refStmt s.data.toList k).1 : Nat), .bool (Al.refStmt s.data.toList k).2]) ∧ w' = w := by
  by_cases c0 : Al.vB (Al.bt s.data.toList k) = true
  · by_cases c1 : Al.bt s.data.toList (k + 1) = 46
    · by_cases c2 : Al.fB (Al.bt s.data.toList (k + 2)) = true
      · by_cases c3 : Al.bt s.data.toList (k + 3) = 61
        · by_cases c4 : Al.vB (Al.bt s.data.toList (k + 4)) = true
          · by_cases c5 : Al.bt s.data.toList (k + 5) = 59
            · exact Stmt_f s k w h1 c0 c1 c2 c3 c4 c5
            · exact Stmt_e s k w h1 c0 c1 c2 c3 c4 c5
          · exact Stmt_d s k w h1 c0 c1 c2 c3 c4
        · exact Stmt_c s k w h1 c0 c1 c2 c3
      · exact Stmt_b s k w h1 c0 c1 c2
    · by_cases c2 : Al.bt s.data.toList (k + 1) = 61
      · by_cases c3 : Al.bt s.data.toList (k + 2) = 64
        · by_cases c4 : Al.oB (Al.bt s.data.toList (k + 3)) = true
          · by_cases c5 : Al.bt s.data.toList (k + 4) = 59
            · exact Stmt_j s k w h1 c0 c2 c3 c4 c5
            · exact Stmt_i s k w h1 c0 c2 c3 c4 c5
          · exact Stmt_h s k w h1 c0 c2 c3 c4
        · by_cases c4 : Al.vB (Al.bt s.data.toList (k + 2)) = true
          · by_cases c5 : Al.bt s.data.toList (k + 3) = 46
            · by_cases c6 : Al.fB (Al.bt s.data.toList (k + 4)) = true
              · by_cases c7 : Al.bt s.data.toList (k + 5) = 59
                · exact Stmt_n s k w h1 c0 c2 c3 c4 c5 c6 c7
                · exact Stmt_m s k w h1 c0 c2 c3 c4 c5 c6 c7
              · exact Stmt_l s k w h1 c0 c2 c3 c4 c5 c6
            · by_cases c6 : Al.bt s.data.toList (k + 3) = 59
              · exact Stmt_o s k w h1 c0 c2 c3 c4 c5 c6
              · exact Stmt_p s k w h1 c0 c2 c3 c4 c5 c6
          · exact Stmt_k s k w h1 c0 c2 c3 c4
      · exact Stmt_g s k w h1 c0 c1 c2
  · exact Stmt_a s k w h1 c0

/-- The order of texts. -/
theorem lt_drop {a b : List UInt8} : ∀ (k : Nat), a.take k = b.take k → k ≤ a.length → k ≤ b.length → Al.lt a b = Al.lt (a.drop k) (b.drop k) := by
  intro k
  induction k generalizing a b with
  | zero => intros; simp
  | succ k ih =>
    intro h ha hb
    match a, b, ha, hb with
    | x :: a, y :: b, ha, hb =>
      simp only [List.take_succ_cons, List.cons.injEq] at h
      obtain ⟨rfl, h⟩ := h
      have := ih h (by simpa using ha) (by simpa using hb)
      simp only [List.drop_succ_cons]
      rw [← this]
      simp [Al.lt, Op.bytesLess]
theorem take_snoc (s : ByteArray) (k : Nat) (h : k < s.size) : s.data.toList.take (k + 1) = s.data.toList.take k ++ [s[k]] := by
  rw [List.take_succ_eq_append_getElem (by simpa using h)]; rfl
theorem drop_cons (s : ByteArray) (k : Nat) (h : k < s.size) : s.data.toList.drop k = s[k] :: s.data.toList.drop (k + 1) := by
  rw [List.drop_eq_getElem_cons (by simpa using h)]; rfl
theorem drop_end (s : ByteArray) (k : Nat) (h : s.size ≤ k) : s.data.toList.drop k = [] := by
  rw [List.drop_eq_nil_iff]; simpa using h
theorem lt_part {s t : ByteArray} {k : Nat} (h1 : k < s.size) (h2 : k < t.size) (he : s.data.toList.take k = t.data.toList.take k) (hne : s[k].toNat ≠ t[k].toNat) :
    Al.lt s.data.toList t.data.toList = decide (s[k].toNat < t[k].toNat) := by
  rw [lt_drop k he (by simp; omega) (by simp; omega), drop_cons s k h1, drop_cons t k h2]
  have : ¬ s[k] = t[k] := fun e => hne (by rw [e])
  simp [Al.lt, Op.bytesLess, this, UInt8.lt_iff_toNat_lt]
theorem lt_end {s t : ByteArray} {k : Nat} (hk1 : k ≤ s.size) (hk2 : k ≤ t.size) (he : s.data.toList.take k = t.data.toList.take k) (hend : s.size ≤ k ∨ t.size ≤ k) :
    Al.lt s.data.toList t.data.toList = decide (s.size < t.size) := by
  rw [lt_drop k he (by simp; omega) (by simp; omega)]
  by_cases h2 : t.size ≤ k
  · rw [drop_end t k h2]
    have : ¬ s.size < t.size := by omega
    cases s.data.toList.drop k <;> simp [Al.lt, Op.bytesLess, this]
  · rw [drop_end s k (by omega), drop_cons t k (by omega)]
    have : s.size < t.size := by omega
    simp [Al.lt, Op.bytesLess, this]

set_option maxHeartbeats 800000 in
theorem Below_any (s t : ByteArray) (w : World) (hs : s.size ≤ 1000000) (_ht : t.size ≤ 1000000) :
    Calls Try.prog 16 #[.string s, .string t] w fun e w' => e = .returned (.bool (Al.lt s.data.toList t.data.toList)) ∧ ∃ n, w' = w.drewN n := by
  go_enter Try.func16, Try.ntmps16
  go_wp2
  go_loopw [5] (fun i wr => ∃ k : Nat, k ≤ s.size ∧ k ≤ t.size ∧ i = .int .i64 k ∧ s.data.toList.take k = t.data.toList.take k ∧ ∃ n, wr = w.drewN n) (fun i _ => s.size - (intOf i).toNat)
  case atStart => exact ⟨0, Nat.zero_le _, Nat.zero_le _, rfl, rfl, 0, rfl⟩
  case round =>
    obtain ⟨k, hk1, hk2, rfl, he, n, rfl⟩ := hrel
    have HE : Hid (s.data.toList.take k = t.data.toList.take k) := he
    clear he
    by_cases l1 : k < s.size
    · by_cases l2 : k < t.size
      · by_cases hne : s[k].toNat = t[k].toNat
        · have HN : Hid (s[k].toNat = t[k].toNat) := hne
          have hb : ((s[k].toNat : Int) != (t[k].toNat : Int)) = false := by simp [hne]
          clear hne
          go_wp2_with fail
          go_quiet (fail)
          go_wp2_with fail
          go_roundw
          case rel => exact ⟨k + 1, by omega, by omega, by go_num, by rw [take_snoc s k l1, take_snoc t k l2, HE.out, UInt8.toNat_inj.1 HN.out], _, rfl⟩
          case measure => simp [intOf]; omega
        · have HN : Hid (s[k].toNat ≠ t[k].toNat) := hne
          have hb : ((s[k].toNat : Int) != (t[k].toNat : Int)) = true := by simp; omega
          clear hne
          go_wp2_with fail
          go_quiet (fail)
          go_wp2_with fail
          go_quiet (fail)
          go_wp2_with fail
          go_ret
          refine ⟨?_, _, by simp only [World.drewN_drewN]; rfl⟩
          rw [lt_part l1 l2 HE.out HN.out]; simp
      · go_wp2
        go_ret
        exact ⟨by rw [lt_end hk1 hk2 HE.out (.inr (by omega))]; simp, n, rfl⟩
    · have hd : decide ((k : Int) < (s.size : Int)) = false := by simp; omega
      go_wp2
      go_ret
      exact ⟨by rw [lt_end hk1 hk2 HE.out (.inl (by omega))]; simp, n, rfl⟩
end Go.Proofs.Ytmjlcajcobbcgab

namespace Go.Proofs.Ytmjlcajcobbcgab
open Go.RowKit

/-- A string's value of its bytes. -/
def bs (l : List UInt8) : ByteArray := ⟨⟨l⟩⟩
theorem bs_data (l : List UInt8) : (bs l).data.toList = l := rfl
theorem bs_toList (l : List UInt8) : (bs l).toList = l := by rw [ByteArray.toList_eq]; rfl
theorem bs_size (l : List UInt8) : (bs l).size = l.length := rfl
theorem bs_of (s : ByteArray) : s = bs s.data.toList := rfl
def sv (l : List UInt8) : Value := .string (bs l)

/-- The slice v reads as the list R of texts. -/
def RdS (w : World) (v : Value) (R : List (List UInt8)) : Prop := w.ownsRow 0 9 1 v R.length (R.map sv)

theorem RdS.shape {w : World} {v : Value} {R : List (List UInt8)} (h : RdS w v R) :
    (v = .slice none 0 0 ∧ R = []) ∨ ∃ g cap, v = .slice (some ⟨g, 0, none⟩) R.length cap ∧ R.length ≤ cap ∧ cap ≤ 9223372036854775807 ∧ g < w.heap.size ∧ ∀ k (h : k < R.length), w.cell? ⟨g, k, none⟩ = some (.string (bs R[k])) := by
  rcases h.2 with ⟨rfl, hn⟩ | ⟨g, cap, cur, rfl, _, hg, hl, hm, hsz, htk⟩
  · exact .inl ⟨rfl, List.eq_nil_of_length_eq_zero hn⟩
  · refine .inr ⟨g, cap, rfl, hl, hm, (Array.getElem?_eq_some_iff.1 hg).1, fun k hk => ?_⟩
    have := h.cells (g := g) rfl k (sv R[k]) (by simp [hk])
    unfold sv at this
    have hadd : (⟨g, 0, none⟩ : Addr).add k = ⟨g, k, none⟩ := by unfold Addr.add; split <;> simp_all
    rwa [hadd] at this

theorem RdS.below {w w' : World} {v : Value} {R : List (List UInt8)} (h : RdS w v R) (hb : Below w.heap.size w w') : RdS w' v R := by
  refine ⟨h.1, ?_⟩
  rcases h.2 with hn | ⟨g, cap, cur, rfl, hg0, hg, rest⟩
  · exact .inl hn
  · exact .inr ⟨g, cap, cur, rfl, hg0, by rw [hb.block g (Array.getElem?_eq_some_iff.1 hg).1]; exact hg, rest⟩
theorem RdS.drewN {w : World} {v : Value} {R : List (List UInt8)} (h : RdS w v R) (n : Nat) : RdS (w.drewN n) v R := h
theorem ownsRow_zero {w : World} {base : Nat} {e : TypeId} {size : Nat} {v : Value} {n : Nat} {xs : List Value} (h : w.ownsRow base e size v n xs) : w.ownsRow 0 e size v n xs := by
  refine ⟨h.1, ?_⟩
  rcases h.2 with hn | ⟨g, cap, cur, rfl, hg0, rest⟩
  · exact .inl hn
  · exact .inr ⟨g, cap, cur, rfl, Nat.zero_le _, rest⟩

theorem ownsRow_base {w : World} {base base' : Nat} {e : TypeId} {size : Nat} {v : Value} {n : Nat} {xs : List Value} (h : w.ownsRow base e size v n xs) (hb : base' ≤ base) : w.ownsRow base' e size v n xs := by
  refine ⟨h.1, ?_⟩
  rcases h.2 with hn | ⟨g, cap, cur, rfl, hg0, rest⟩
  · exact .inl hn
  · exact .inr ⟨g, cap, cur, rfl, Nat.le_trans hb hg0, rest⟩

theorem has_snoc (R : List (List UInt8)) (t r : List UInt8) : Al.has (R ++ [r]) t = (Al.has R t || (r == t)) := by simp [Al.has]
theorem has_take_succ {R : List (List UInt8)} {t : List UInt8} {k : Nat} (h : k < R.length) : Al.has (R.take (k + 1)) t = (Al.has (R.take k) t || (R[k] == t)) := by
  rw [List.take_succ_eq_append_getElem h, has_snoc]
theorem has_of_take {R : List (List UInt8)} {t : List UInt8} {k : Nat} (h : k < R.length) (e : R[k] = t) : Al.has R t = true := by
  rw [Al.has_iff]; exact e ▸ List.getElem_mem h

set_option maxHeartbeats 400000 in
theorem Has_some (R : List (List UInt8)) (t : List UInt8) (g cap : Nat) (w : World) (hl : R.length ≤ cap) (hm : cap ≤ 9223372036854775807) (hc : ∀ k (h : k < R.length), w.cell? ⟨g, k, none⟩ = some (.string (bs R[k]))) :
    Calls Try.prog 62 #[.slice (some ⟨g, 0, none⟩) R.length cap, .string (bs t)] w fun e w' => e = .returned (.bool (Al.has R t)) ∧ w' = w := by
  have ht := bs_toList
  go_enter Try.func62, Try.ntmps62
  go_wp2
  go_loop [5] (fun i => ∃ k : Nat, k ≤ R.length ∧ i = .int .i64 k ∧ Al.has (R.take k) t = false) (fun i => R.length - (intOf i).toNat)
  case atStart => exact ⟨0, Nat.zero_le _, rfl, by simp [Al.has]⟩
  case round =>
    obtain ⟨k, hk, rfl, hh⟩ := hrel
    have HH : Hid (Al.has (R.take k) t = false) := hh
    clear hh
    by_cases hlt : k < R.length
    · by_cases e : R[k] = t
      · have HE : Hid (R[k] = t) := e
        have hcell : w.cell? ⟨g, k, none⟩ = some (.string (bs t)) := by rw [← e]; exact hc k hlt
        clear e hc
        go_wp2
        go_ret
        exact ⟨by rw [has_of_take hlt HE.out]; rfl, rfl⟩
      · have hcell := hc k hlt
        have hb : (R[k] == t) = false := by simp [e]
        have HB : Hid ((R[k] == t) = false) := hb
        clear hc e
        go_wp2
        go_round
        case rel => exact ⟨k + 1, by omega, by go_num, by rw [has_take_succ hlt, HH.out, HB.out]; rfl⟩
        case measure => simp [intOf]; omega
    · go_wp2
      go_ret
      exact ⟨by have := HH.out; rw [List.take_of_length_le (by omega)] at this; rw [this]; rfl, rfl⟩
set_option maxHeartbeats 400000 in
theorem Has_nil (t : List UInt8) (w : World) :
    Calls Try.prog 62 #[.slice none 0 0, .string (bs t)] w fun e w' => e = .returned (.bool (Al.has [] t)) ∧ w' = w := by
  go_enter Try.func62, Try.ntmps62
  go_wp2
  refine wp_loop_rounds 1 ?_
  rw [rounds_succ]
  go_wp2
  go_ret
  exact ⟨by simp [Al.has], rfl⟩
theorem Has_any (R : List (List UInt8)) (t : List UInt8) (v : Value) (w : World) (hr : RdS w v R) :
    Calls Try.prog 62 #[v, .string (bs t)] w fun e w' => e = .returned (.bool (Al.has R t)) ∧ w' = w := by
  rcases hr.shape with ⟨rfl, rfl⟩ | ⟨g, cap, rfl, hl, hm, _, hc⟩
  · exact Has_nil t w
  · exact Has_some R t g cap w hl hm hc
end Go.Proofs.Ytmjlcajcobbcgab

namespace Go.Proofs.Ytmjlcajcobbcgab
open Go.RowKit

theorem Try.info9 : (Try.prog.info? 9).map (fun i => (i.zero, i.size, i.bytes)) = some (some (.string ⟨#[]⟩), 1, 16) := by kernel_rfl

theorem Below_bs (a b : List UInt8) (w : World) (ha : a.length ≤ 1000000) (hb : b.length ≤ 1000000) :
    Calls Try.prog 16 #[.string (bs a), .string (bs b)] w fun e w' => e = .returned (.bool (Al.lt a b)) ∧ ∃ n, w' = w.drewN n := Below_any (bs a) (bs b) w ha hb

/-- The document's insertion, by a fold from the left. -/
def insStep (t : List UInt8) (a : Bool × List (List UInt8)) (r : List UInt8) : Bool × List (List UInt8) :=
  if a.1 = false ∧ Al.lt t r = true then (true, a.2 ++ [t] ++ [r]) else (a.1, a.2 ++ [r])
def insSt (t : List UInt8) (d : Bool) (R : List (List UInt8)) : Bool × List (List UInt8) := R.foldl (insStep t) (d, [])
theorem ins_fold (t : List UInt8) : ∀ (R : List (List UInt8)) (d : Bool) (o : List (List UInt8)),
    (R.foldl (insStep t) (d, o)).2 ++ (bif (R.foldl (insStep t) (d, o)).1 then [] else [t]) = o ++ Al.insGo t d R
  | [], d, o => by cases d <;> simp [Al.insGo]
  | r :: R, d, o => by
    rw [List.foldl_cons, insStep, Al.insGo]
    split
    · rw [ins_fold t R]; simp
    · rw [ins_fold t R]; simp
theorem insSt_end (t : List UInt8) (d : Bool) (R : List (List UInt8)) : (insSt t d R).2 ++ (bif (insSt t d R).1 then [] else [t]) = Al.insGo t d R := by
  have := ins_fold t R d []
  simpa [insSt] using this
theorem insSt_succ (t : List UInt8) (d : Bool) (R : List (List UInt8)) {k : Nat} (h : k < R.length) : insSt t d (R.take (k + 1)) = insStep t (insSt t d (R.take k)) R[k] := by
  unfold insSt
  rw [List.take_succ_eq_append_getElem h, List.foldl_append]; rfl
theorem insSt_len (t : List UInt8) (d : Bool) (R : List (List UInt8)) (k : Nat) (h : k ≤ R.length) : (insSt t d (R.take k)).2.length ≤ 2 * k := by
  induction k with
  | zero => simp [insSt]
  | succ k ih =>
    have := ih (by omega)
    rw [insSt_succ t d R (by omega), insStep]
    split <;> simp <;> omega

set_option maxHeartbeats 1000000 in
theorem With_some (R : List (List UInt8)) (t : List UInt8) (g cap : Nat) (w : World) (_hl : R.length ≤ cap) (_hm : cap ≤ 9223372036854775807) (hg : g < w.heap.size) (hc : ∀ k (h : k < R.length), w.cell? ⟨g, k, none⟩ = some (.string (bs R[k])))
    (hr : RdS w (.slice (some ⟨g, 0, none⟩) R.length cap) R) (hs : R.length ≤ 100000) (ht : t.length ≤ 1000000) (hR : ∀ r ∈ R, r.length ≤ 1000000) :
    Calls Try.prog 60 #[.slice (some ⟨g, 0, none⟩) R.length cap, .string (bs t)] w fun e w' => ∃ v, e = .returned v ∧ w'.ownsRow w.heap.size 9 1 v (Al.refWith R t).length ((Al.refWith R t).map sv) ∧ Below w.heap.size w w' := by
  obtain ⟨i0, hi, hz0, hz1, hz2⟩ := info_parts Try.info9
  obtain ⟨d0, hd0⟩ : ∃ d0, Al.has R t = d0 := ⟨_, rfl⟩
  have HD : Hid (Al.has R t = d0) := hd0
  clear hd0
  go_enter Try.func60, Try.ntmps60
  go_wp2_with (go_at_call 62; refine (Has_any R t _ _ hr).mono ?_; rintro e w' ⟨rfl, rfl⟩; rw [HD.out])
  go_loopw [5, 6, 7] (fun v d i wr => ∃ k : Nat, k ≤ R.length ∧ i = .int .i64 k ∧ d = .bool (insSt t d0 (R.take k)).1 ∧ wr.ownsRow w'.heap.size 9 1 v (insSt t d0 (R.take k)).2.length ((insSt t d0 (R.take k)).2.map sv) ∧ Below w'.heap.size w' wr) (fun _ _ i _ => R.length - (intOf i).toNat)
  case atStart => exact ⟨0, Nat.zero_le _, rfl, rfl, World.ownsRow_nil _ _ _ _, Below.refl _ _⟩
  case round =>
    obtain ⟨k, hk, rfl, rfl, hown, hbel⟩ := hrel
    by_cases hlt : k < R.length
    · obtain ⟨⟨d, o⟩, hdo⟩ : ∃ x, insSt t d0 (R.take k) = x := ⟨_, rfl⟩
      have hlen := insSt_len t d0 R k hk
      rw [hdo] at hown hlen
      rw [hdo]
      have HDO : Hid (insSt t d0 (R.take k) = (d, o)) := hdo
      clear hdo
      simp only at hown hlen
      have HC : Hid (w'.cell? ⟨g, k, none⟩ = some (.string (bs R[k]))) := hc k hlt
      have hcell : wr.cell? ⟨g, k, none⟩ = some (.string (bs R[k])) := (hbel.cell (p := ⟨g, k, none⟩) hg).trans (hc k hlt)
      have hsz := hbel.size
      have hrl := hR R[k] (List.getElem_mem hlt)
      clear hc hR
      by_cases c : d = false ∧ Al.lt t R[k] = true
      · obtain ⟨rfl, hlt2⟩ := c
        go_wp2_with fail
        refine (Below_bs _ _ _ ht hrl).mono ?_
        rintro e w1 ⟨rfl, n1, rfl⟩
        have hown1 : (wr.drewN n1).ownsRow w'.heap.size 9 1 u5 o.length (o.map sv) := hown
        have hbel1 : Below w'.heap.size w' (wr.drewN n1) := ⟨hbel.os, hbel.tape, hbel.output, hbel.size, hbel.block⟩
        go_wp2_with (first
          | (at_builtin; refine append_new (w0 := w') rfl (.tmp 29) (.tmp 31) 26 rfl w'.heap.size 9 i0 (.string ⟨#[]⟩) 1 16 Try.underlying26 hi hz0 hz1 hz2 rfl (by decide) _ o.length (o.map sv) rfl hown1 #[.string (bs t)] rfl (by simp [Value.oneCell']) rfl (by omega) (by decide) hsz hbel1 ?_; intro v2 w2 hown2 hbel2; have hcell2 := (hbel2.cell (p := ⟨g, k, none⟩) hg).trans HC.out; have hsz2 := hbel2.size)
          | (at_builtin; refine append_new (w0 := w') rfl (.tmp 33) (.tmp 38) 26 rfl w'.heap.size 9 i0 (.string ⟨#[]⟩) 1 16 Try.underlying26 hi hz0 hz1 hz2 rfl (by decide) _ _ _ rfl hown2 #[.string (bs R[k])] rfl (by simp [Value.oneCell']) rfl (by omega) (by decide) hsz2 hbel2 ?_; intro v3 w3 hown3 hbel3))
        go_roundw
        case rel => exact ⟨k + 1, by omega, by go_num, by rw [insSt_succ t d0 R hlt, HDO.out, insStep, if_pos ⟨rfl, hlt2⟩], by rw [insSt_succ t d0 R hlt, HDO.out, insStep, if_pos ⟨rfl, hlt2⟩]; simpa [sv, Nat.add_assoc] using hown3, hbel3⟩
        case measure => simp [intOf]; omega
      · have HI : Hid (insSt t d0 (R.take (k + 1)) = (d, o ++ [R[k]])) := by rw [Hid, insSt_succ t d0 R hlt, HDO.out, insStep, if_neg c]
        cases d with
        | true =>
          clear c
          go_wp2_with fail
          refine (Below_bs _ _ _ ht hrl).mono ?_
          rintro e w1 ⟨rfl, n1, rfl⟩
          have hown1 : (wr.drewN n1).ownsRow w'.heap.size 9 1 u5 o.length (o.map sv) := hown
          have hbel1 : Below w'.heap.size w' (wr.drewN n1) := ⟨hbel.os, hbel.tape, hbel.output, hbel.size, hbel.block⟩
          go_wp2_with (at_builtin; refine append_new (w0 := w') rfl (.tmp 33) (.tmp 38) 26 rfl w'.heap.size 9 i0 (.string ⟨#[]⟩) 1 16 Try.underlying26 hi hz0 hz1 hz2 rfl (by decide) _ o.length (o.map sv) rfl hown1 #[.string (bs R[k])] rfl (by simp [Value.oneCell']) rfl (by omega) (by decide) hsz hbel1 ?_; intro v3 w3 hown3 hbel3)
          go_roundw
          case rel => exact ⟨k + 1, by omega, by go_num, by rw [HI.out], by rw [HI.out]; simpa [sv] using hown3, hbel3⟩
          case measure => simp [intOf]; omega
        | false =>
          have hlt2 : Al.lt t R[k] = false := by simpa using c
          clear c
          go_wp2_with fail
          refine (Below_bs _ _ _ ht hrl).mono ?_
          rintro e w1 ⟨rfl, n1, rfl⟩
          have hown1 : (wr.drewN n1).ownsRow w'.heap.size 9 1 u5 o.length (o.map sv) := hown
          have hbel1 : Below w'.heap.size w' (wr.drewN n1) := ⟨hbel.os, hbel.tape, hbel.output, hbel.size, hbel.block⟩
          go_wp2_with (at_builtin; refine append_new (w0 := w') rfl (.tmp 33) (.tmp 38) 26 rfl w'.heap.size 9 i0 (.string ⟨#[]⟩) 1 16 Try.underlying26 hi hz0 hz1 hz2 rfl (by decide) _ o.length (o.map sv) rfl hown1 #[.string (bs R[k])] rfl (by simp [Value.oneCell']) rfl (by omega) (by decide) hsz hbel1 ?_; intro v3 w3 hown3 hbel3)
          go_roundw
          case rel => exact ⟨k + 1, by omega, by go_num, by rw [HI.out], by rw [HI.out]; simpa [sv] using hown3, hbel3⟩
          case measure => simp [intOf]; omega
    · have hke : k = R.length := by omega
      have HI := insSt_end t d0 R
      rw [List.take_of_length_le (by omega)] at hown ⊢
      obtain ⟨⟨d, o⟩, hdo⟩ : ∃ x, insSt t d0 R = x := ⟨_, rfl⟩
      have hlen := insSt_len t d0 R R.length (Nat.le_refl _)
      rw [List.take_length, hdo] at hlen
      rw [hdo] at hown HI
      rw [hdo]
      have HR : Hid (Al.refWith R t = o ++ (bif d then [] else [t])) := by rw [Hid, HI, Al.refWith, HD.out]
      have hsz := hbel.size
      simp only at hown hlen
      clear HI hdo hc hR
      cases d with
      | true =>
        go_wp2
        go_ret
        exact ⟨_, rfl, by rw [HR.out]; simpa using hown, hbel⟩
      | false =>
        go_wp2_with (at_builtin; refine append_new (w0 := w') rfl (.tmp 42) (.tmp 44) 26 rfl w'.heap.size 9 i0 (.string ⟨#[]⟩) 1 16 Try.underlying26 hi hz0 hz1 hz2 rfl (by decide) _ o.length (o.map sv) rfl hown #[.string (bs t)] rfl (by simp [Value.oneCell']) rfl (by omega) (by decide) hsz hbel ?_; intro v3 w3 hown3 hbel3)
        go_ret
        exact ⟨_, rfl, by rw [HR.out]; simpa [sv] using hown3, hbel3⟩

set_option maxHeartbeats 1000000 in
theorem With_nil (t : List UInt8) (w : World) :
    Calls Try.prog 60 #[.slice none 0 0, .string (bs t)] w fun e w' => ∃ v, e = .returned v ∧ w'.ownsRow w.heap.size 9 1 v (Al.refWith [] t).length ((Al.refWith [] t).map sv) ∧ Below w.heap.size w w' := by
  obtain ⟨i0, hi, hz0, hz1, hz2⟩ := info_parts Try.info9
  have hR : Al.refWith [] t = [t] := rfl
  have hd : Al.has [] t = false := rfl
  rw [hR]
  go_enter Try.func60, Try.ntmps60
  go_wp2_with (go_at_call 62; refine (Has_nil t _).mono ?_; rintro e w' ⟨rfl, rfl⟩; rw [hd])
  refine wp_loop_rounds 1 ?_
  rw [rounds_succ]
  go_wp2_with (at_builtin; refine append_new (w0 := w') rfl (.tmp 42) (.tmp 44) 26 rfl w'.heap.size 9 i0 (.string ⟨#[]⟩) 1 16 Try.underlying26 hi hz0 hz1 hz2 rfl (by decide) _ 0 [] rfl (World.ownsRow_nil _ _ _ _) #[.string (bs t)] rfl (by simp [Value.oneCell']) rfl (by omega) (by decide) (Nat.le_refl _) (Below.refl _ _) ?_; intro v3 w3 hown3 hbel3)
  go_ret
  exact ⟨_, rfl, by simpa [sv] using hown3, hbel3⟩

/-- The document's With. -/
theorem With_any (R : List (List UInt8)) (t : List UInt8) (v : Value) (w : World) (hr : RdS w v R) (hs : R.length ≤ 100000) (ht : t.length ≤ 1000000) (hR : ∀ r ∈ R, r.length ≤ 1000000) :
    Calls Try.prog 60 #[v, .string (bs t)] w fun e w' => ∃ v, e = .returned v ∧ w'.ownsRow w.heap.size 9 1 v (Al.refWith R t).length ((Al.refWith R t).map sv) ∧ Below w.heap.size w w' := by
  have hr0 := hr
  rcases hr.shape with ⟨rfl, rfl⟩ | ⟨g, cap, rfl, hl, hm, hg, hc⟩
  · exact With_nil t w
  · exact With_some R t g cap w hl hm hg hc hr0 hs ht hR

/-- The document's Without. -/
theorem fil_take_succ {R : List (List UInt8)} {t : List UInt8} {k : Nat} (h : k < R.length) :
    (R.take (k + 1)).filter (fun r => !(r == t)) = (R.take k).filter (fun r => !(r == t)) ++ (if R[k] = t then [] else [R[k]]) := by
  rw [List.take_succ_eq_append_getElem h, List.filter_append]
  by_cases e : R[k] = t
  · simp [e]
  · simp [e]
set_option maxHeartbeats 1000000 in
theorem Without_some (R : List (List UInt8)) (t : List UInt8) (g cap : Nat) (w : World) (_hl : R.length ≤ cap) (_hm : cap ≤ 9223372036854775807) (hg : g < w.heap.size) (hc : ∀ k (h : k < R.length), w.cell? ⟨g, k, none⟩ = some (.string (bs R[k])))
    (hs : R.length ≤ 100000) :
    Calls Try.prog 63 #[.slice (some ⟨g, 0, none⟩) R.length cap, .string (bs t)] w fun e w' => ∃ v, e = .returned v ∧ w'.ownsRow w.heap.size 9 1 v (R.filter (fun r => !(r == t))).length ((R.filter (fun r => !(r == t))).map sv) ∧ Below w.heap.size w w' := by
  obtain ⟨i0, hi, hz0, hz1, hz2⟩ := info_parts Try.info9
  have hbt := bs_toList
  go_enter Try.func63, Try.ntmps63
  go_wp2
  go_loopw [5, 6] (fun v i wr => ∃ k : Nat, k ≤ R.length ∧ i = .int .i64 k ∧ wr.ownsRow w.heap.size 9 1 v ((R.take k).filter (fun r => !(r == t))).length (((R.take k).filter (fun r => !(r == t))).map sv) ∧ Below w.heap.size w wr) (fun _ i _ => R.length - (intOf i).toNat)
  case atStart => exact ⟨0, Nat.zero_le _, rfl, World.ownsRow_nil _ _ _ _, Below.refl _ _⟩
  case round =>
    obtain ⟨k, hk, rfl, hown, hbel⟩ := hrel
    have hsz := hbel.size
    by_cases hlt : k < R.length
    · obtain ⟨o, ho⟩ : ∃ o, (R.take k).filter (fun r => !(r == t)) = o := ⟨_, rfl⟩
      have hlen : o.length ≤ k := by rw [← ho]; exact Nat.le_trans (List.length_filter_le _ _) (List.length_take_le _ _)
      rw [ho] at hown
      by_cases e : R[k] = t
      · have HI : Hid ((R.take (k + 1)).filter (fun r => !(r == t)) = o) := by rw [Hid, fil_take_succ hlt, ho, if_pos e]; simp
        have hcell : wr.cell? ⟨g, k, none⟩ = some (.string (bs t)) := by rw [← e]; exact (hbel.cell (p := ⟨g, k, none⟩) hg).trans (hc k hlt)
        clear ho hc e
        go_wp2
        go_roundw
        case rel => exact ⟨k + 1, by omega, by go_num, by rw [HI.out]; exact hown, hbel⟩
        case measure => simp [intOf]; omega
      · have HI : Hid ((R.take (k + 1)).filter (fun r => !(r == t)) = o ++ [R[k]]) := by rw [Hid, fil_take_succ hlt, ho, if_neg e]
        have hcell : wr.cell? ⟨g, k, none⟩ = some (.string (bs R[k])) := (hbel.cell (p := ⟨g, k, none⟩) hg).trans (hc k hlt)
        have hb : (R[k] == t) = false := by simp [e]
        clear ho hc e
        go_wp2_with (at_builtin; refine append_new (w0 := w) rfl (.tmp 19) (.tmp 24) 26 rfl w.heap.size 9 i0 (.string ⟨#[]⟩) 1 16 Try.underlying26 hi hz0 hz1 hz2 rfl (by decide) _ o.length (o.map sv) rfl hown #[.string (bs R[k])] rfl (by simp [Value.oneCell']) rfl (by omega) (by decide) hsz hbel ?_; intro v3 w3 hown3 hbel3)
        go_roundw
        case rel => exact ⟨k + 1, by omega, by go_num, by rw [HI.out]; simpa [sv] using hown3, hbel3⟩
        case measure => simp [intOf]; omega
    · rw [List.take_of_length_le (by omega)] at hown
      clear hc
      go_wp2
      go_ret
      exact ⟨_, rfl, hown, hbel⟩
set_option maxHeartbeats 1000000 in
theorem Without_nil (t : List UInt8) (w : World) :
    Calls Try.prog 63 #[.slice none 0 0, .string (bs t)] w fun e w' => ∃ v, e = .returned v ∧ w'.ownsRow w.heap.size 9 1 v 0 [] ∧ Below w.heap.size w w' := by
  go_enter Try.func63, Try.ntmps63
  go_wp2
  refine wp_loop_rounds 1 ?_
  rw [rounds_succ]
  go_wp2
  go_ret
  exact ⟨_, rfl, World.ownsRow_nil _ _ _ _, Below.refl _ _⟩
theorem Without_any (R : List (List UInt8)) (t : List UInt8) (v : Value) (w : World) (hr : RdS w v R) (hs : R.length ≤ 100000) :
    Calls Try.prog 63 #[v, .string (bs t)] w fun e w' => ∃ v, e = .returned v ∧ w'.ownsRow w.heap.size 9 1 v (R.filter (fun r => !(r == t))).length ((R.filter (fun r => !(r == t))).map sv) ∧ Below w.heap.size w w' := by
  rcases hr.shape with ⟨rfl, rfl⟩ | ⟨g, cap, rfl, hl, hm, hg, hc⟩
  · exact Without_nil t w
  · exact Without_some R t g cap w hl hm hg hc hs
end Go.Proofs.Ytmjlcajcobbcgab

namespace Go.Proofs.Ytmjlcajcobbcgab
open Go.RowKit

theorem extract_bs (s : ByteArray) (k j : Nat) : s.extract k j = bs ((s.data.toList.drop k).take (j - k)) := by
  apply ByteArray.ext
  apply Array.ext'
  rw [ByteArray.data_extract, bs_data]
  simp [List.take_drop]

set_option maxHeartbeats 400000 in
/-- A text of one statement, by the document. -/
theorem one_any (s : ByteArray) (w : World) (hs : s.size ≤ maxLen) :
    Calls Try.prog 61 #[.string s] w fun e w' => e = .returned (.tuple #[.int .i64 ((Al.oneP s.data.toList).1 : Nat), .int .i64 ((Al.oneP s.data.toList).2 : Nat)]) ∧ w' = w := by
  unfold maxLen at hs
  have hsz : s.data.toList.length = s.size := rfl
  by_cases h1 : 200 < s.size
  · have HF : Hid (Al.oneP s.data.toList = (1, 0)) := by rw [Hid, Al.oneP, if_pos (by omega)]
    clear hsz
    go_enter Try.func61, Try.ntmps61
    go_wp2
    go_ret2
    exact ⟨by rw [HF.out]; rfl, rfl⟩
  · obtain ⟨⟨j, ok⟩, hr⟩ : ∃ x, Al.refStmt s.data.toList 0 = x := ⟨_, rfl⟩
    have hle := Al.refStmt_le s.data.toList 0
    rw [hr] at hle
    simp only at hle
    cases ok with
    | false =>
      have HF : Hid (Al.oneP s.data.toList = (2, j)) := by rw [Hid, Al.oneP, if_neg (by omega), hr, if_pos (.inl rfl)]
      clear hsz
      go_enter Try.func61, Try.ntmps61
      go_wp2_with (go_at_call 59; refine (Stmt_any s 0 _ (by decide)).mono ?_; rintro e w' ⟨rfl, rfl⟩; rw [hr])
      go_ret2
      exact ⟨by rw [HF.out]; rfl, rfl⟩
    | true =>
      by_cases h2 : j < s.size
      · have HF : Hid (Al.oneP s.data.toList = (2, j)) := by rw [Hid, Al.oneP, if_neg (by omega), hr, if_pos (.inr (by simpa using h2))]
        clear hsz
        go_enter Try.func61, Try.ntmps61
        go_wp2_with (go_at_call 59; refine (Stmt_any s 0 _ (by decide)).mono ?_; rintro e w' ⟨rfl, rfl⟩; rw [hr])
        go_ret2
        exact ⟨by rw [HF.out]; rfl, rfl⟩
      · have HF : Hid (Al.oneP s.data.toList = (0, 0)) := by rw [Hid, Al.oneP, if_neg (by omega), hr, if_neg (by simp; omega)]
        clear hsz
        go_enter Try.func61, Try.ntmps61
        go_wp2_with (go_at_call 59; refine (Stmt_any s 0 _ (by decide)).mono ?_; rintro e w' ⟨rfl, rfl⟩; rw [hr])
        go_ret2
        exact ⟨by rw [HF.out]; rfl, rfl⟩

theorem map_bound {A : List Al.St} (h : Al.Good A) : ∀ r ∈ A.map Al.txt, r.length ≤ 1000000 := by
  intro r hr
  obtain ⟨a, ha, rfl⟩ := List.mem_map.1 hr
  have := Al.txt_len a (h.1 a ha)
  omega

set_option maxHeartbeats 1000000 in
/-- A program's text, by the document. -/
theorem Read_any (s : ByteArray) (w : World) (hs : s.size ≤ maxLen) :
    Calls Try.prog 29 #[.string s] w fun e w' => ∃ v, e = .returned (.tuple #[v, .int .i64 ((Al.loadP s.data.toList).1 : Nat), .int .i64 ((Al.loadP s.data.toList).2.1 : Nat)]) ∧
      w'.ownsRow w.heap.size 9 1 v ((Al.loadP s.data.toList).2.2.map Al.txt).length (((Al.loadP s.data.toList).2.2.map Al.txt).map sv) ∧ Below w.heap.size w w' := by
  unfold maxLen at hs
  have HSZ : Hid (s.data.toList.length = s.size) := rfl
  by_cases h1 : 200 < s.size
  · have HF : Hid (Al.loadP s.data.toList = (1, 0, [])) := by rw [Hid, Al.loadP, if_pos (by rw [HSZ.out]; omega)]
    go_enter Try.func29, Try.ntmps29
    go_wp2
    go_ret3
    exact ⟨.slice none 0 0, by rw [HF.out]; rfl, by rw [HF.out]; exact World.ownsRow_nil _ _ _ _, Below.refl _ _⟩
  · go_enter Try.func29, Try.ntmps29
    go_wp2
    go_loopw [5, 6] (fun v i wr => ∃ (k n : Nat) (A : List Al.St), k ≤ s.size ∧ i = .int .i64 k ∧ Al.Good A ∧ A.length ≤ k ∧ s.size ≤ n + k ∧ Al.parse s.data.toList n k A = Al.parse s.data.toList s.data.toList.length 0 [] ∧
      wr.ownsRow w.heap.size 9 1 v (A.map Al.txt).length ((A.map Al.txt).map sv) ∧ Below w.heap.size w wr) (fun _ i _ => s.size - (intOf i).toNat)
    case atStart => exact ⟨0, s.size, [], Nat.zero_le _, rfl, Al.good_nil, Nat.zero_le _, by omega, by rw [HSZ.out], World.ownsRow_nil _ _ _ _, Below.refl _ _⟩
    case round =>
      obtain ⟨k, n, A, hk, rfl, hgood, hlen, hfuel, hpar, hown, hbel⟩ := hrel
      have HP : Hid (Al.parse s.data.toList n k A = Al.parse s.data.toList s.data.toList.length 0 []) := hpar
      clear hpar
      have hsz := hbel.size
      by_cases hlt : k < s.size
      · obtain ⟨n, rfl⟩ : ∃ m, n = m + 1 := ⟨n - 1, by omega⟩
        by_cases hkd : Al.kindOf (s.data.toList.drop k) < 4
        · obtain ⟨y1, y2, y3, y4⟩ := Al.stmt_yes hkd
          have HP2 := HP.out
          rw [Al.parse_good _ _ _ _ (by rw [HSZ.out]; omega) hkd] at HP2
          have hwl := Al.withP_len A (Al.mkSt (Al.kindOf (s.data.toList.drop k)) (s.data.toList.drop k))
          have hgd := Al.withP_good hgood y3
          have hrw := Al.refWith_eq (A.map Al.txt) (Al.txt (Al.mkSt (Al.kindOf (s.data.toList.drop k)) (s.data.toList.drop k))) hgood.2
          rw [← Al.withP_txt] at hrw
          have hsl := Al.shpLen_ge (Al.kindOf (s.data.toList.drop k))
          rw [HSZ.out] at y2
          generalize Al.mkSt (Al.kindOf (s.data.toList.drop k)) (s.data.toList.drop k) = st at *
          generalize Al.shpLen (Al.kindOf (s.data.toList.drop k)) = q at *
          have hext : s.extract k (k + q) = bs (Al.txt st) := by rw [extract_bs s k (k + q), y4]; congr 2; omega
          have HRW : Hid (Al.refWith (A.map Al.txt) (Al.txt st) = (Al.withP A st).map Al.txt) := hrw
          have HP3 : Hid (Al.parse s.data.toList n (k + q) (Al.withP A st) = Al.parse s.data.toList s.data.toList.length 0 []) := HP2
          have HY : Hid (Al.refStmt s.data.toList k = (k + q, true)) := y1
          have htl := Al.txt_len st y3
          clear hrw HP HP2 hkd y1 y4
          go_wp2_with fail
          refine (Stmt_any s k _ (by omega)).mono ?_
          rintro e w1 ⟨rfl, rfl⟩
          rw [HY.out]
          go_wp2_with fail
          refine (With_any (A.map Al.txt) (Al.txt st) _ _ (ownsRow_zero hown) (by simp; omega) (by omega) (map_bound hgood)).mono ?_
          rintro e w2 ⟨v2, rfl, hown2, hbel2⟩
          rw [HRW.out] at hown2
          go_wp2_with fail
          go_roundw
          case rel => exact ⟨k + q, n, Al.withP A st, y2, by go_num, hgd, by omega, by omega, HP3.out, ownsRow_base hown2 hsz, hbel.trans (hbel2.mono hsz)⟩
          case measure => simp [intOf]; omega
        · have HY : Hid (Al.refStmt s.data.toList k = (k + Al.fur (s.data.toList.drop k) 4, false)) := Al.stmt_no hkd
          have hfl := Al.fur_le (s.data.toList.drop k) 4
          have HP2 := HP.out
          rw [Al.parse_bad _ _ _ _ (by rw [HSZ.out]; omega) hkd] at HP2
          have HF : Hid (Al.loadP s.data.toList = (2, k + Al.fur (s.data.toList.drop k) 4, [])) := by rw [Hid, Al.loadP, if_neg (by rw [HSZ.out]; omega), ← HP2, if_pos rfl]
          clear HP2 hkd
          generalize Al.fur (s.data.toList.drop k) 4 = q at *
          go_wp2_with fail
          refine (Stmt_any s k _ (by omega)).mono ?_
          rintro e w1 ⟨rfl, rfl⟩
          rw [HY.out]
          go_wp2_with fail
          go_ret3
          exact ⟨.slice none 0 0, by rw [HF.out]; simp, by rw [HF.out]; exact World.ownsRow_nil _ _ _ _, hbel⟩
      · have HP2 := HP.out
        rw [Al.parse_end _ _ _ _ (by rw [HSZ.out]; omega)] at HP2
        by_cases hful : 24 < A.length
        · have HF : Hid (Al.loadP s.data.toList = (3, 0, [])) := by rw [Hid, Al.loadP, if_neg (by rw [HSZ.out]; omega), ← HP2, if_neg (by simp), if_pos hful]
          clear HP2
          rcases hown.2 with ⟨rfl, h0⟩ | ⟨g, cap, cur, rfl, _⟩
          · simp at h0; rw [h0] at hful; simp at hful
          · go_wp2
            go_ret3
            exact ⟨.slice none 0 0, by rw [HF.out]; rfl, by rw [HF.out]; exact World.ownsRow_nil _ _ _ _, hbel⟩
        · have HF : Hid (Al.loadP s.data.toList = (0, 0, A)) := by rw [Hid, Al.loadP, if_neg (by rw [HSZ.out]; omega), ← HP2, if_neg (by simp), if_neg hful]
          clear HP2
          have hown0 := hown
          rcases hown.2 with ⟨rfl, h0⟩ | ⟨g, cap, cur, rfl, _⟩
          · go_wp2
            go_ret3
            exact ⟨_, by rw [HF.out]; rfl, by rw [HF.out]; exact hown0, hbel⟩
          · have hl : ((A.map Al.txt).length : Int) = (A.length : Int) := by simp
            go_wp2
            go_ret3
            exact ⟨_, by rw [HF.out]; rfl, by rw [HF.out]; exact hown0, hbel⟩
end Go.Proofs.Ytmjlcajcobbcgab

namespace Go.Proofs.Ytmjlcajcobbcgab
open Go.RowKit

/-- What a Load, an Add, a Drop makes of the program's statements; the error; the place. -/
def chLoad (l : List UInt8) (A : List Al.St) : List Al.St := if (Al.loadP l).1 = 0 then (Al.loadP l).2.2 else A
def theSt (l : List UInt8) : Al.St := Al.mkSt (Al.kindOf l) l
def addE (l : List UInt8) (A : List Al.St) : Nat × Nat := if (Al.oneP l).1 = 0 then (if 24 < (Al.withP A (theSt l)).length then (3, 0) else (0, 0)) else Al.oneP l
def chAdd (l : List UInt8) (A : List Al.St) : List Al.St := if (addE l A).1 = 0 then Al.withP A (theSt l) else A
def dropE (l : List UInt8) (A : List Al.St) : Nat × Nat := if (Al.oneP l).1 = 0 then (if Al.has (A.map Al.txt) (Al.txt (theSt l)) = false then (4, 0) else (0, 0)) else Al.oneP l
def chDrop (l : List UInt8) (A : List Al.St) : List Al.St := if (dropE l A).1 = 0 then Al.dropP A (theSt l) else A

/-- The document's session in memory. -/
structure RSess (w : World) (b : Nat) (A : List Al.St) : Prop where
  ex : ∃ v, w.heap[b]? = some (.cells #[v] 61 (0, 0)) ∧ RdS w v (A.map Al.txt)

theorem grown_of_below {w w' : World} (h : Below w.heap.size w w') (r : Option Nat) : w.grownBy w' r := ⟨h.os, h.tape, h.output, h.size, fun k hk _ => h.block k hk⟩
theorem grown_set {w w' : World} {b : Nat} (h : Below w.heap.size w w') (v : Value) : w.grownBy (w'.setCell ⟨b, 0, none⟩ v) (some b) :=
  ⟨h.os, h.tape, h.output, by simpa [World.setCell] using h.size, fun k hk hne => by rw [Below.heap_setCell _ _ _ _ (by simpa using hne)]; exact h.block k hk⟩
theorem grown_trans {a b c : World} {r : Option Nat} (h : a.grownBy b r) (k : b.grownBy c r) : a.grownBy c r :=
  ⟨k.os.trans h.os, k.tape.trans h.tape, k.output.trans h.output, Nat.le_trans h.size k.size, fun i hi hne => (k.block i (Nat.lt_of_lt_of_le hi h.size) hne).trans (h.block i hi hne)⟩

theorem RSess.below {w w' : World} {b : Nat} {A : List Al.St} (h : RSess w b A) (hb : Below w.heap.size w w') : RSess w' b A := by
  obtain ⟨v, h1, h2⟩ := h.ex
  exact ⟨v, by rw [hb.block b (lt_of_block h1)]; exact h1, h2.below hb⟩
theorem RSess.set {w w' : World} {b : Nat} {v v' : Value} {A : List Al.St} (h : w.heap[b]? = some (.cells #[v] 61 (0, 0))) (hb : Below w.heap.size w w') (ho : w'.ownsRow w.heap.size 9 1 v' (A.map Al.txt).length ((A.map Al.txt).map sv)) :
    RSess (w'.setCell ⟨b, 0, none⟩ v') b A := by
  have h1 := lt_of_block h
  exact ⟨v', one_setCell (by rw [hb.block b h1]; exact h), ownsRow_zero (ownsRow_setCell_below ho h1 v')⟩

theorem ownsRow_slice {w : World} {base : Nat} {e : TypeId} {size : Nat} {v : Value} {n : Nat} {xs : List Value} (h : w.ownsRow base e size v n xs) : ∃ ao c, v = .slice ao n c := by
  rcases h.2 with ⟨rfl, rfl⟩ | ⟨g, cap, cur, rfl, _⟩
  · exact ⟨_, _, rfl⟩
  · exact ⟨_, _, rfl⟩

set_option maxHeartbeats 400000 in
theorem rLoad_any (b : Nat) (A : List Al.St) (s : ByteArray) (w : World) (hs : s.size ≤ maxLen) (hS : RSess w b A) :
    Calls Try.prog 30 #[.pointer (some ⟨b, 0, none⟩), .string s] w fun e w' => e = .returned (.tuple #[.int .i64 ((Al.loadP s.data.toList).1 : Nat), .int .i64 ((Al.loadP s.data.toList).2.1 : Nat)]) ∧
      RSess w' b (chLoad s.data.toList A) ∧ w.grownBy w' (some b) := by
  obtain ⟨v, hv, hr⟩ := hS.ex
  have HCH : Hid (chLoad s.data.toList A = if (Al.loadP s.data.toList).1 = 0 then (Al.loadP s.data.toList).2.2 else A) := rfl
  have HRD := Read_any s w hs
  generalize Al.loadP s.data.toList = r at *
  obtain ⟨er, pl, A'⟩ := r
  simp only at HRD HCH
  by_cases he : er = 0
  · subst he
    have HRD2 := hid HRD
    clear HRD
    go_enter Try.func30, Try.ntmps30
    go_wp2_with fail
    refine HRD2.out.mono ?_
    rintro e w1 ⟨v1, rfl, hown, hbel⟩
    obtain ⟨ao, c1, rfl⟩ := ownsRow_slice hown
    have hv1 : w1.heap[b]? = some (.cells #[v] 61 (0, 0)) := by rw [hbel.block b (lt_of_block hv)]; exact hv
    have hc := cell_of_one hv1
    have hf := free_of_one hv1
    have R1 := hid (And.intro (RSess.set hv hbel hown) (grown_set (b := b) hbel (.slice ao (A'.map Al.txt).length c1)))
    simp only [List.length_map] at R1
    clear hown hbel hv1
    go_wp2_with fail
    go_ret2
    refine ⟨rfl, ?_, R1.out.2⟩
    simp only [HCH.out, if_true]; exact R1.out.1
  · have HRD2 := hid HRD
    clear HRD
    go_enter Try.func30, Try.ntmps30
    go_wp2_with fail
    refine HRD2.out.mono ?_
    rintro e w1 ⟨v1, rfl, hown, hbel⟩
    have hb : ((er : Int) == 0) = false := beq_eq_false_iff_ne.2 (by omega)
    go_wp2_with fail
    go_ret2
    refine ⟨rfl, ?_, grown_of_below hbel _⟩
    rw [HCH.out, if_neg he]; exact hS.below hbel

set_option maxHeartbeats 400000 in
theorem rAdd_any (b : Nat) (A : List Al.St) (s : ByteArray) (w : World) (hs : s.size ≤ maxLen) (hS : RSess w b A) (hA : Al.Good A) (hl : A.length ≤ 24) :
    Calls Try.prog 31 #[.pointer (some ⟨b, 0, none⟩), .string s] w fun e w' => e = .returned (.tuple #[.int .i64 ((addE s.data.toList A).1 : Nat), .int .i64 ((addE s.data.toList A).2 : Nat)]) ∧
      RSess w' b (chAdd s.data.toList A) ∧ w.grownBy w' (some b) := by
  obtain ⟨v, hv, hr⟩ := hS.ex
  have hcv := cell_of_one hv
  have HONE := hid (one_any s w hs)
  by_cases he : (Al.oneP s.data.toList).1 = 0
  · obtain ⟨hk, hwf, htx, hle⟩ := Al.one_yes he
    have hp := Al.one_zero he
    have hrw := Al.refWith_eq (A.map Al.txt) (Al.txt (theSt s.data.toList)) hA.2
    rw [← Al.withP_txt] at hrw
    have HW0 := With_any (A.map Al.txt) (Al.txt (theSt s.data.toList)) v w hr (by simp; omega) (by rw [theSt, htx]; omega) (map_bound hA)
    rw [hrw] at HW0
    have htx2 : bs (Al.txt (theSt s.data.toList)) = s := by rw [theSt, htx]; rfl
    rw [htx2] at HW0
    have HW := hid HW0
    clear HW0 htx2
    rw [hp] at HONE
    by_cases hf : 24 < (Al.withP A (theSt s.data.toList)).length
    · have HE : Hid (addE s.data.toList A = (3, 0)) := by rw [Hid, addE, if_pos he, if_pos hf]
      have HC : Hid (chAdd s.data.toList A = A) := by rw [Hid, chAdd, HE.out, if_neg (by simp)]
      generalize Al.withP A (theSt s.data.toList) = A' at *
      clear he hrw hp htx hwf hk
      go_enter Try.func31, Try.ntmps31
      go_wp2_with fail
      refine HONE.out.mono ?_
      rintro e w1 ⟨rfl, rfl⟩
      go_wp2_with fail
      refine HW.out.mono ?_
      rintro e w2 ⟨v2, rfl, hown, hbel⟩
      obtain ⟨ao, c1, rfl⟩ := ownsRow_slice hown
      have hlm : ((A'.map Al.txt).length : Int) = A'.length := by simp
      go_wp2_with fail
      go_ret2
      refine ⟨by rw [HE.out]; rfl, ?_, grown_of_below hbel _⟩
      rw [HC.out]; exact hS.below hbel
    · have HE : Hid (addE s.data.toList A = (0, 0)) := by rw [Hid, addE, if_pos he, if_neg hf]
      have HC : Hid (chAdd s.data.toList A = Al.withP A (theSt s.data.toList)) := by rw [Hid, chAdd, HE.out, if_pos rfl]
      generalize Al.withP A (theSt s.data.toList) = A' at *
      clear he hrw hp htx hwf hk
      go_enter Try.func31, Try.ntmps31
      go_wp2_with fail
      refine HONE.out.mono ?_
      rintro e w1 ⟨rfl, rfl⟩
      go_wp2_with fail
      refine HW.out.mono ?_
      rintro e w2 ⟨v2, rfl, hown, hbel⟩
      obtain ⟨ao, c1, rfl⟩ := ownsRow_slice hown
      have hlm : ((A'.map Al.txt).length : Int) = A'.length := by simp
      have hv2 : w2.heap[b]? = some (.cells #[v] 61 (0, 0)) := by rw [hbel.block b (lt_of_block hv)]; exact hv
      have hc2 := cell_of_one hv2
      have hf2 := free_of_one hv2
      have R1 := hid (And.intro (RSess.set hv hbel hown) (grown_set (b := b) hbel (.slice ao (A'.map Al.txt).length c1)))
      simp only [List.length_map] at R1
      clear hown hbel hv2
      go_wp2_with fail
      go_ret2
      refine ⟨by rw [HE.out]; rfl, ?_, R1.out.2⟩
      rw [HC.out]; exact R1.out.1
  · have HE : Hid (addE s.data.toList A = Al.oneP s.data.toList) := by rw [Hid, addE, if_neg he]
    have HC : Hid (chAdd s.data.toList A = A) := by rw [Hid, chAdd, HE.out, if_neg he]
    generalize Al.oneP s.data.toList = r at *
    obtain ⟨er, pl⟩ := r
    simp only at he
    have hb : ((er : Int) != 0) = true := by simpa using he
    go_enter Try.func31, Try.ntmps31
    go_wp2_with fail
    refine HONE.out.mono ?_
    rintro e w1 ⟨rfl, rfl⟩
    go_wp2_with fail
    go_ret2
    refine ⟨by rw [HE.out]; rfl, ?_, grown_of_below (Below.refl _ _) _⟩
    rw [HC.out]; exact hS

set_option maxHeartbeats 400000 in
theorem rDrop_any (b : Nat) (A : List Al.St) (s : ByteArray) (w : World) (hs : s.size ≤ maxLen) (hS : RSess w b A) (hA : Al.Good A) (hl : A.length ≤ 24) :
    Calls Try.prog 32 #[.pointer (some ⟨b, 0, none⟩), .string s] w fun e w' => e = .returned (.tuple #[.int .i64 ((dropE s.data.toList A).1 : Nat), .int .i64 ((dropE s.data.toList A).2 : Nat)]) ∧
      RSess w' b (chDrop s.data.toList A) ∧ w.grownBy w' (some b) := by
  obtain ⟨v, hv, hr⟩ := hS.ex
  have hcv := cell_of_one hv
  have hfv := free_of_one hv
  have HONE := hid (one_any s w hs)
  by_cases he : (Al.oneP s.data.toList).1 = 0
  · obtain ⟨hk, hwf, htx, hle⟩ := Al.one_yes he
    have hp := Al.one_zero he
    have htx2 : bs (Al.txt (theSt s.data.toList)) = s := by rw [theSt, htx]; rfl
    have HH0 := Has_any (A.map Al.txt) (Al.txt (theSt s.data.toList)) v w hr
    have HW0 := Without_any (A.map Al.txt) (Al.txt (theSt s.data.toList)) v w hr (by simp; omega)
    have hwf2 : Al.Wf (theSt s.data.toList) := hwf
    rw [← Al.dropP_txt hA.1 hwf2] at HW0
    clear hwf2
    rw [htx2] at HH0 HW0
    have HW : Hid (Calls Try.prog 63 #[v, .string s] w fun e w' => ∃ v, e = .returned v ∧ w'.ownsRow w.heap.size 9 1 v ((Al.dropP A (theSt s.data.toList)).map Al.txt).length (((Al.dropP A (theSt s.data.toList)).map Al.txt).map sv) ∧ Below w.heap.size w w') := HW0
    rw [hp] at HONE
    cases hf : Al.has (A.map Al.txt) (Al.txt (theSt s.data.toList)) with
    | false =>
      have HE : Hid (dropE s.data.toList A = (4, 0)) := by rw [Hid, dropE, if_pos he, if_pos hf]
      have HC : Hid (chDrop s.data.toList A = A) := by rw [Hid, chDrop, HE.out, if_neg (by simp)]
      rw [hf] at HH0
      have HH := hid HH0
      clear he hp htx hwf hk HH0 HW0 htx2 hf
      go_enter Try.func32, Try.ntmps32
      go_wp2_with fail
      refine HONE.out.mono ?_
      rintro e w1 ⟨rfl, rfl⟩
      go_wp2_with fail
      refine HH.out.mono ?_
      rintro e w2 ⟨rfl, rfl⟩
      go_wp2_with fail
      go_ret2
      refine ⟨by rw [HE.out]; rfl, ?_, grown_of_below (Below.refl _ _) _⟩
      rw [HC.out]; exact hS
    | true =>
      have HE : Hid (dropE s.data.toList A = (0, 0)) := by rw [Hid, dropE, if_pos he, if_neg (by rw [hf]; simp)]
      have HC : Hid (chDrop s.data.toList A = Al.dropP A (theSt s.data.toList)) := by rw [Hid, chDrop, HE.out, if_pos rfl]
      rw [hf] at HH0
      have HH := hid HH0
      generalize Al.dropP A (theSt s.data.toList) = A' at *
      clear he hp htx hwf hk HH0 HW0 htx2 hf
      go_enter Try.func32, Try.ntmps32
      go_wp2_with fail
      refine HONE.out.mono ?_
      rintro e w1 ⟨rfl, rfl⟩
      go_wp2_with fail
      refine HH.out.mono ?_
      rintro e w2 ⟨rfl, rfl⟩
      go_wp2_with fail
      refine HW.out.mono ?_
      rintro e w3 ⟨v2, rfl, hown, hbel⟩
      obtain ⟨ao, c1, rfl⟩ := ownsRow_slice hown
      have hv2 : w3.heap[b]? = some (.cells #[v] 61 (0, 0)) := by rw [hbel.block b (lt_of_block hv)]; exact hv
      have hc2 := cell_of_one hv2
      have hf2 := free_of_one hv2
      have R1 := hid (And.intro (RSess.set hv hbel hown) (grown_set (b := b) hbel (.slice ao (A'.map Al.txt).length c1)))
      simp only [List.length_map] at R1
      clear hown hbel hv2
      go_wp2_with fail
      go_ret2
      refine ⟨by rw [HE.out]; rfl, ?_, R1.out.2⟩
      rw [HC.out]; exact R1.out.1
  · have HE : Hid (dropE s.data.toList A = Al.oneP s.data.toList) := by rw [Hid, dropE, if_neg he]
    have HC : Hid (chDrop s.data.toList A = A) := by rw [Hid, chDrop, HE.out, if_neg he]
    generalize Al.oneP s.data.toList = r at *
    obtain ⟨er, pl⟩ := r
    simp only at he
    have hb : ((er : Int) != 0) = true := by simpa using he
    go_enter Try.func32, Try.ntmps32
    go_wp2_with fail
    refine HONE.out.mono ?_
    rintro e w1 ⟨rfl, rfl⟩
    go_wp2_with fail
    go_ret2
    refine ⟨by rw [HE.out]; rfl, ?_, grown_of_below (Below.refl _ _) _⟩
    rw [HC.out]; exact hS
end Go.Proofs.Ytmjlcajcobbcgab
