import Derived.Test.YtljafkdaljkanaaRefE
import Derived.Test.YtljafkdaljkanaaGrow
namespace Go.Proofs.Ytljafkdaljkanaa
open Go.RowKit

theorem Try.info9 : (Try.prog.info? 9).map (fun i => (i.zero, i.size, i.bytes)) = some (some (.string ⟨#[]⟩), 1, 16) := by kernel_rfl

theorem Below_bs (a b : List UInt8) (w : World) (ha : a.length ≤ 1000000) (hb : b.length ≤ 1000000) :
    Calls Try.prog 90 #[.string (bs a), .string (bs b)] w fun e w' => e = .returned (.bool (Al.lt a b)) ∧ ∃ n, w' = w.drewN n := Below_any (bs a) (bs b) w ha hb

/-- The document's insertion, by a fold from the left. -/
def insStep (t : List UInt8) (a : Bool × List (List UInt8)) (r : List UInt8) : Bool × List (List UInt8) :=
  if a.1 = false ∧ Al.lt t r = true then (true, a.2 ++ [t] ++ [r]) else (a.1, a.2 ++ [r])
def insSt (t : List UInt8) (d : Bool) (R : List (List UInt8)) : Bool × List (List UInt8) := R.foldl (insStep t) (d, [])
theorem ins_fold (t : List UInt8) : ∀ (R : List (List UInt8)) (d : Bool) (o : List (List UInt8)),
    (R.foldl (insStep t) (d, o)).2 ++ (bif (R.foldl (insStep t) (d, o)).1 then [] else [t]) = o ++ Al.insGo t d R
  | [], d, o => by cases d <;> simp [Al.insGo]
  | r :: R, d, o => by
    rw [List.foldl_cons, insStep, Al.insGo]
    split
    · rw [ins_fold t R]; simp
    · rw [ins_fold t R]; simp
theorem insSt_end (t : List UInt8) (d : Bool) (R : List (List UInt8)) : (insSt t d R).2 ++ (bif (insSt t d R).1 then [] else [t]) = Al.insGo t d R := by
  have := ins_fold t R d []
  simpa [insSt] using this
theorem insSt_succ (t : List UInt8) (d : Bool) (R : List (List UInt8)) {k : Nat} (h : k < R.length) : insSt t d (R.take (k + 1)) = insStep t (insSt t d (R.take k)) R[k] := by
  unfold insSt
  rw [List.take_succ_eq_append_getElem h, List.foldl_append]; rfl
theorem insSt_len (t : List UInt8) (d : Bool) (R : List (List UInt8)) (k : Nat) (h : k ≤ R.length) : (insSt t d (R.take k)).2.length ≤ 2 * k := by
  induction k with
  | zero => simp [insSt]
  | succ k ih =>
    have := ih (by omega)
    rw [insSt_succ t d R (by omega), insStep]
    split <;> simp <;> omega

set_option maxHeartbeats 1000000 in
theorem With_some (R : List (List UInt8)) (t : List UInt8) (g cap : Nat) (w : World) (_hl : R.length ≤ cap) (_hm : cap ≤ 9223372036854775807) (hg : g < w.heap.size) (hc : ∀ k (h : k < R.length), w.cell? ⟨g, k, none⟩ = some (.string (bs R[k])))
    (hr : RdS w (.slice (some ⟨g, 0, none⟩) R.length cap) R) (hs : R.length ≤ 100000) (ht : t.length ≤ 1000000) (hR : ∀ r ∈ R, r.length ≤ 1000000) :
    Calls Try.prog 78 #[.slice (some ⟨g, 0, none⟩) R.length cap, .string (bs t)] w fun e w' => ∃ v, e = .returned v ∧ w'.ownsRow w.heap.size 9 1 v (Al.refWith R t).length ((Al.refWith R t).map sv) ∧ Below w.heap.size w w' := by
  obtain ⟨i0, hi, hz0, hz1, hz2⟩ := info_parts Try.info9
  obtain ⟨d0, hd0⟩ : ∃ d0, Al.has R t = d0 := ⟨_, rfl⟩
  have HD : Hid (Al.has R t = d0) := hd0
  clear hd0
  go_enter Try.func78, Try.ntmps78
  go_wp2_with (go_at_call 79; refine (Has_any R t _ _ hr).mono ?_; rintro e w' ⟨rfl, rfl⟩; rw [HD.out])
  go_loopw [5, 6, 7] (fun v d i wr => ∃ k : Nat, k ≤ R.length ∧ i = .int .i64 k ∧ d = .bool (insSt t d0 (R.take k)).1 ∧ wr.ownsRow w'.heap.size 9 1 v (insSt t d0 (R.take k)).2.length ((insSt t d0 (R.take k)).2.map sv) ∧ Below w'.heap.size w' wr) (fun _ _ i _ => R.length - (intOf i).toNat)
  case atStart => exact ⟨0, Nat.zero_le _, rfl, rfl, World.ownsRow_nil _ _ _ _, Below.refl _ _⟩
  case round =>
    obtain ⟨k, hk, rfl, rfl, hown, hbel⟩ := hrel
    by_cases hlt : k < R.length
    · obtain ⟨⟨d, o⟩, hdo⟩ : ∃ x, insSt t d0 (R.take k) = x := ⟨_, rfl⟩
      have hlen := insSt_len t d0 R k hk
      rw [hdo] at hown hlen
      rw [hdo]
      have HDO : Hid (insSt t d0 (R.take k) = (d, o)) := hdo
      clear hdo
      simp only at hown hlen
      have HC : Hid (w'.cell? ⟨g, k, none⟩ = some (.string (bs R[k]))) := hc k hlt
      have hcell : wr.cell? ⟨g, k, none⟩ = some (.string (bs R[k])) := (hbel.cell (p := ⟨g, k, none⟩) hg).trans (hc k hlt)
      have hsz := hbel.size
      have hrl := hR R[k] (List.getElem_mem hlt)
      clear hc hR
      by_cases c : d = false ∧ Al.lt t R[k] = true
      · obtain ⟨rfl, hlt2⟩ := c
        go_wp2_with fail
        refine (Below_bs _ _ _ ht hrl).mono ?_
        rintro e w1 ⟨rfl, n1, rfl⟩
        have hown1 : (wr.drewN n1).ownsRow w'.heap.size 9 1 u5 o.length (o.map sv) := hown
        have hbel1 : Below w'.heap.size w' (wr.drewN n1) := ⟨hbel.os, hbel.tape, hbel.output, hbel.size, hbel.block⟩
        go_wp2_with (first
          | (at_builtin; refine append_new (w0 := w') rfl (.tmp 29) (.tmp 31) 29 rfl w'.heap.size 9 i0 (.string ⟨#[]⟩) 1 16 Try.underlying29 hi hz0 hz1 hz2 rfl (by decide) _ o.length (o.map sv) rfl hown1 #[.string (bs t)] rfl (by simp [Value.oneCell']) rfl (by omega) (by decide) hsz hbel1 ?_; intro v2 w2 hown2 hbel2; have hcell2 := (hbel2.cell (p := ⟨g, k, none⟩) hg).trans HC.out; have hsz2 := hbel2.size)
          | (at_builtin; refine append_new (w0 := w') rfl (.tmp 33) (.tmp 38) 29 rfl w'.heap.size 9 i0 (.string ⟨#[]⟩) 1 16 Try.underlying29 hi hz0 hz1 hz2 rfl (by decide) _ _ _ rfl hown2 #[.string (bs R[k])] rfl (by simp [Value.oneCell']) rfl (by omega) (by decide) hsz2 hbel2 ?_; intro v3 w3 hown3 hbel3))
        go_roundw
        case rel => exact ⟨k + 1, by omega, by go_num, by rw [insSt_succ t d0 R hlt, HDO.out, insStep, if_pos ⟨rfl, hlt2⟩], by rw [insSt_succ t d0 R hlt, HDO.out, insStep, if_pos ⟨rfl, hlt2⟩]; simpa [sv, Nat.add_assoc] using hown3, hbel3⟩
        case measure => simp [intOf]; omega
      · have HI : Hid (insSt t d0 (R.take (k + 1)) = (d, o ++ [R[k]])) := by rw [Hid, insSt_succ t d0 R hlt, HDO.out, insStep, if_neg c]
        cases d with
        | true =>
          clear c
          go_wp2_with fail
          refine (Below_bs _ _ _ ht hrl).mono ?_
          rintro e w1 ⟨rfl, n1, rfl⟩
          have hown1 : (wr.drewN n1).ownsRow w'.heap.size 9 1 u5 o.length (o.map sv) := hown
          have hbel1 : Below w'.heap.size w' (wr.drewN n1) := ⟨hbel.os, hbel.tape, hbel.output, hbel.size, hbel.block⟩
          go_wp2_with (at_builtin; refine append_new (w0 := w') rfl (.tmp 33) (.tmp 38) 29 rfl w'.heap.size 9 i0 (.string ⟨#[]⟩) 1 16 Try.underlying29 hi hz0 hz1 hz2 rfl (by decide) _ o.length (o.map sv) rfl hown1 #[.string (bs R[k])] rfl (by simp [Value.oneCell']) rfl (by omega) (by decide) hsz hbel1 ?_; intro v3 w3 hown3 hbel3)
          go_roundw
          case rel => exact ⟨k + 1, by omega, by go_num, by rw [HI.out], by rw [HI.out]; simpa [sv] using hown3, hbel3⟩
          case measure => simp [intOf]; omega
        | false =>
          have hlt2 : Al.lt t R[k] = false := by simpa using c
          clear c
          go_wp2_with fail
          refine (Below_bs _ _ _ ht hrl).mono ?_
          rintro e w1 ⟨rfl, n1, rfl⟩
          have hown1 : (wr.drewN n1).ownsRow w'.heap.size 9 1 u5 o.length (o.map sv) := hown
          have hbel1 : Below w'.heap.size w' (wr.drewN n1) := ⟨hbel.os, hbel.tape, hbel.output, hbel.size, hbel.block⟩
          go_wp2_with (at_builtin; refine append_new (w0 := w') rfl (.tmp 33) (.tmp 38) 29 rfl w'.heap.size 9 i0 (.string ⟨#[]⟩) 1 16 Try.underlying29 hi hz0 hz1 hz2 rfl (by decide) _ o.length (o.map sv) rfl hown1 #[.string (bs R[k])] rfl (by simp [Value.oneCell']) rfl (by omega) (by decide) hsz hbel1 ?_; intro v3 w3 hown3 hbel3)
          go_roundw
          case rel => exact ⟨k + 1, by omega, by go_num, by rw [HI.out], by rw [HI.out]; simpa [sv] using hown3, hbel3⟩
          case measure => simp [intOf]; omega
    · have hke : k = R.length := by omega
      have HI := insSt_end t d0 R
      rw [List.take_of_length_le (by omega)] at hown ⊢
      obtain ⟨⟨d, o⟩, hdo⟩ : ∃ x, insSt t d0 R = x := ⟨_, rfl⟩
      have hlen := insSt_len t d0 R R.length (Nat.le_refl _)
      rw [List.take_length, hdo] at hlen
      rw [hdo] at hown HI
      rw [hdo]
      have HR : Hid (Al.refWith R t = o ++ (bif d then [] else [t])) := by rw [Hid, HI, Al.refWith, HD.out]
      have hsz := hbel.size
      simp only at hown hlen
      clear HI hdo hc hR
      cases d with
      | true =>
        go_wp2
        go_ret
        exact ⟨_, rfl, by rw [HR.out]; simpa using hown, hbel⟩
      | false =>
        go_wp2_with (at_builtin; refine append_new (w0 := w') rfl (.tmp 42) (.tmp 44) 29 rfl w'.heap.size 9 i0 (.string ⟨#[]⟩) 1 16 Try.underlying29 hi hz0 hz1 hz2 rfl (by decide) _ o.length (o.map sv) rfl hown #[.string (bs t)] rfl (by simp [Value.oneCell']) rfl (by omega) (by decide) hsz hbel ?_; intro v3 w3 hown3 hbel3)
        go_ret
        exact ⟨_, rfl, by rw [HR.out]; simpa [sv] using hown3, hbel3⟩

set_option maxHeartbeats 1000000 in
theorem With_nil (t : List UInt8) (w : World) :
    Calls Try.prog 78 #[.slice none 0 0, .string (bs t)] w fun e w' => ∃ v, e = .returned v ∧ w'.ownsRow w.heap.size 9 1 v (Al.refWith [] t).length ((Al.refWith [] t).map sv) ∧ Below w.heap.size w w' := by
  obtain ⟨i0, hi, hz0, hz1, hz2⟩ := info_parts Try.info9
  have hR : Al.refWith [] t = [t] := rfl
  have hd : Al.has [] t = false := rfl
  rw [hR]
  go_enter Try.func78, Try.ntmps78
  go_wp2_with (go_at_call 79; refine (Has_nil t _).mono ?_; rintro e w' ⟨rfl, rfl⟩; rw [hd])
  refine wp_loop_rounds 1 ?_
  rw [rounds_succ]
  go_wp2_with (at_builtin; refine append_new (w0 := w') rfl (.tmp 42) (.tmp 44) 29 rfl w'.heap.size 9 i0 (.string ⟨#[]⟩) 1 16 Try.underlying29 hi hz0 hz1 hz2 rfl (by decide) _ 0 [] rfl (World.ownsRow_nil _ _ _ _) #[.string (bs t)] rfl (by simp [Value.oneCell']) rfl (by omega) (by decide) (Nat.le_refl _) (Below.refl _ _) ?_; intro v3 w3 hown3 hbel3)
  go_ret
  exact ⟨_, rfl, by simpa [sv] using hown3, hbel3⟩

/-- The document's With. -/
theorem With_any (R : List (List UInt8)) (t : List UInt8) (v : Value) (w : World) (hr : RdS w v R) (hs : R.length ≤ 100000) (ht : t.length ≤ 1000000) (hR : ∀ r ∈ R, r.length ≤ 1000000) :
    Calls Try.prog 78 #[v, .string (bs t)] w fun e w' => ∃ v, e = .returned v ∧ w'.ownsRow w.heap.size 9 1 v (Al.refWith R t).length ((Al.refWith R t).map sv) ∧ Below w.heap.size w w' := by
  have hr0 := hr
  rcases hr.shape with ⟨rfl, rfl⟩ | ⟨g, cap, rfl, hl, hm, hg, hc⟩
  · exact With_nil t w
  · exact With_some R t g cap w hl hm hg hc hr0 hs ht hR

/-- The document's Without. -/
theorem fil_take_succ {R : List (List UInt8)} {t : List UInt8} {k : Nat} (h : k < R.length) :
    (R.take (k + 1)).filter (fun r => !(r == t)) = (R.take k).filter (fun r => !(r == t)) ++ (if R[k] = t then [] else [R[k]]) := by
  rw [List.take_succ_eq_append_getElem h, List.filter_append]
  by_cases e : R[k] = t
  · simp [e]
  · simp [e]
set_option maxHeartbeats 1000000 in
theorem Without_some (R : List (List UInt8)) (t : List UInt8) (g cap : Nat) (w : World) (_hl : R.length ≤ cap) (_hm : cap ≤ 9223372036854775807) (hg : g < w.heap.size) (hc : ∀ k (h : k < R.length), w.cell? ⟨g, k, none⟩ = some (.string (bs R[k])))
    (hs : R.length ≤ 100000) :
    Calls Try.prog 80 #[.slice (some ⟨g, 0, none⟩) R.length cap, .string (bs t)] w fun e w' => ∃ v, e = .returned v ∧ w'.ownsRow w.heap.size 9 1 v (R.filter (fun r => !(r == t))).length ((R.filter (fun r => !(r == t))).map sv) ∧ Below w.heap.size w w' := by
  obtain ⟨i0, hi, hz0, hz1, hz2⟩ := info_parts Try.info9
  have hbt := bs_toList
  go_enter Try.func80, Try.ntmps80
  go_wp2
  go_loopw [5, 6] (fun v i wr => ∃ k : Nat, k ≤ R.length ∧ i = .int .i64 k ∧ wr.ownsRow w.heap.size 9 1 v ((R.take k).filter (fun r => !(r == t))).length (((R.take k).filter (fun r => !(r == t))).map sv) ∧ Below w.heap.size w wr) (fun _ i _ => R.length - (intOf i).toNat)
  case atStart => exact ⟨0, Nat.zero_le _, rfl, World.ownsRow_nil _ _ _ _, Below.refl _ _⟩
  case round =>
    obtain ⟨k, hk, rfl, hown, hbel⟩ := hrel
    have hsz := hbel.size
    by_cases hlt : k < R.length
    · obtain ⟨o, ho⟩ : ∃ o, (R.take k).filter (fun r => !(r == t)) = o := ⟨_, rfl⟩
      have hlen : o.length ≤ k := by rw [← ho]; exact Nat.le_trans (List.length_filter_le _ _) (List.length_take_le _ _)
      rw [ho] at hown
      by_cases e : R[k] = t
      · have HI : Hid ((R.take (k + 1)).filter (fun r => !(r == t)) = o) := by rw [Hid, fil_take_succ hlt, ho, if_pos e]; simp
        have hcell : wr.cell? ⟨g, k, none⟩ = some (.string (bs t)) := by rw [← e]; exact (hbel.cell (p := ⟨g, k, none⟩) hg).trans (hc k hlt)
        clear ho hc e
        go_wp2
        go_roundw
        case rel => exact ⟨k + 1, by omega, by go_num, by rw [HI.out]; exact hown, hbel⟩
        case measure => simp [intOf]; omega
      · have HI : Hid ((R.take (k + 1)).filter (fun r => !(r == t)) = o ++ [R[k]]) := by rw [Hid, fil_take_succ hlt, ho, if_neg e]
        have hcell : wr.cell? ⟨g, k, none⟩ = some (.string (bs R[k])) := (hbel.cell (p := ⟨g, k, none⟩) hg).trans (hc k hlt)
        have hb : (R[k] == t) = false := by simp [e]
        clear ho hc e
        go_wp2_with (at_builtin; refine append_new (w0 := w) rfl (.tmp 19) (.tmp 24) 29 rfl w.heap.size 9 i0 (.string ⟨#[]⟩) 1 16 Try.underlying29 hi hz0 hz1 hz2 rfl (by decide) _ o.length (o.map sv) rfl hown #[.string (bs R[k])] rfl (by simp [Value.oneCell']) rfl (by omega) (by decide) hsz hbel ?_; intro v3 w3 hown3 hbel3)
        go_roundw
        case rel => exact ⟨k + 1, by omega, by go_num, by rw [HI.out]; simpa [sv] using hown3, hbel3⟩
        case measure => simp [intOf]; omega
    · rw [List.take_of_length_le (by omega)] at hown
      clear hc
      go_wp2
      go_ret
      exact ⟨_, rfl, hown, hbel⟩
set_option maxHeartbeats 1000000 in
theorem Without_nil (t : List UInt8) (w : World) :
    Calls Try.prog 80 #[.slice none 0 0, .string (bs t)] w fun e w' => ∃ v, e = .returned v ∧ w'.ownsRow w.heap.size 9 1 v 0 [] ∧ Below w.heap.size w w' := by
  go_enter Try.func80, Try.ntmps80
  go_wp2
  refine wp_loop_rounds 1 ?_
  rw [rounds_succ]
  go_wp2
  go_ret
  exact ⟨_, rfl, World.ownsRow_nil _ _ _ _, Below.refl _ _⟩
theorem Without_any (R : List (List UInt8)) (t : List UInt8) (v : Value) (w : World) (hr : RdS w v R) (hs : R.length ≤ 100000) :
    Calls Try.prog 80 #[v, .string (bs t)] w fun e w' => ∃ v, e = .returned v ∧ w'.ownsRow w.heap.size 9 1 v (R.filter (fun r => !(r == t))).length ((R.filter (fun r => !(r == t))).map sv) ∧ Below w.heap.size w w' := by
  rcases hr.shape with ⟨rfl, rfl⟩ | ⟨g, cap, rfl, hl, hm, hg, hc⟩
  · exact Without_nil t w
  · exact Without_some R t g cap w hl hm hg hc hs
end Go.Proofs.Ytljafkdaljkanaa
