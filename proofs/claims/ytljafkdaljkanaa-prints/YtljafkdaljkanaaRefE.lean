import Derived.Test.YtljafkdaljkanaaRefD
import Derived.Test.YtljafkdaljkanaaGrow
namespace Go.Proofs.Ytljafkdaljkanaa
open Go.RowKit

/-- A string's value of its bytes. -/
def bs (l : List UInt8) : ByteArray := ⟨⟨l⟩⟩
theorem bs_data (l : List UInt8) : (bs l).data.toList = l := rfl
theorem bs_toList (l : List UInt8) : (bs l).toList = l := by rw [ByteArray.toList_eq]; rfl
theorem bs_size (l : List UInt8) : (bs l).size = l.length := rfl
theorem bs_of (s : ByteArray) : s = bs s.data.toList := rfl
def sv (l : List UInt8) : Value := .string (bs l)

/-- The slice v reads as the list R of texts. -/
def RdS (w : World) (v : Value) (R : List (List UInt8)) : Prop := w.ownsRow 0 9 1 v R.length (R.map sv)

theorem RdS.shape {w : World} {v : Value} {R : List (List UInt8)} (h : RdS w v R) :
    (v = .slice none 0 0 ∧ R = []) ∨ ∃ g cap, v = .slice (some ⟨g, 0, none⟩) R.length cap ∧ R.length ≤ cap ∧ cap ≤ 9223372036854775807 ∧ g < w.heap.size ∧ ∀ k (h : k < R.length), w.cell? ⟨g, k, none⟩ = some (.string (bs R[k])) := by
  rcases h.2 with ⟨rfl, hn⟩ | ⟨g, cap, cur, rfl, _, hg, hl, hm, hsz, htk⟩
  · exact .inl ⟨rfl, List.eq_nil_of_length_eq_zero hn⟩
  · refine .inr ⟨g, cap, rfl, hl, hm, (Array.getElem?_eq_some_iff.1 hg).1, fun k hk => ?_⟩
    have := h.cells (g := g) rfl k (sv R[k]) (by simp [hk])
    unfold sv at this
    have hadd : (⟨g, 0, none⟩ : Addr).add k = ⟨g, k, none⟩ := by unfold Addr.add; split <;> simp_all
    rwa [hadd] at this

theorem RdS.below {w w' : World} {v : Value} {R : List (List UInt8)} (h : RdS w v R) (hb : Below w.heap.size w w') : RdS w' v R := by
  refine ⟨h.1, ?_⟩
  rcases h.2 with hn | ⟨g, cap, cur, rfl, hg0, hg, rest⟩
  · exact .inl hn
  · exact .inr ⟨g, cap, cur, rfl, hg0, by rw [hb.block g (Array.getElem?_eq_some_iff.1 hg).1]; exact hg, rest⟩
theorem RdS.drewN {w : World} {v : Value} {R : List (List UInt8)} (h : RdS w v R) (n : Nat) : RdS (w.drewN n) v R := h
theorem ownsRow_zero {w : World} {base : Nat} {e : TypeId} {size : Nat} {v : Value} {n : Nat} {xs : List Value} (h : w.ownsRow base e size v n xs) : w.ownsRow 0 e size v n xs := by
  refine ⟨h.1, ?_⟩
  rcases h.2 with hn | ⟨g, cap, cur, rfl, hg0, rest⟩
  · exact .inl hn
  · exact .inr ⟨g, cap, cur, rfl, Nat.zero_le _, rest⟩

theorem ownsRow_base {w : World} {base base' : Nat} {e : TypeId} {size : Nat} {v : Value} {n : Nat} {xs : List Value} (h : w.ownsRow base e size v n xs) (hb : base' ≤ base) : w.ownsRow base' e size v n xs := by
  refine ⟨h.1, ?_⟩
  rcases h.2 with hn | ⟨g, cap, cur, rfl, hg0, rest⟩
  · exact .inl hn
  · exact .inr ⟨g, cap, cur, rfl, Nat.le_trans hb hg0, rest⟩

theorem has_snoc (R : List (List UInt8)) (t r : List UInt8) : Al.has (R ++ [r]) t = (Al.has R t || (r == t)) := by simp [Al.has]
theorem has_take_succ {R : List (List UInt8)} {t : List UInt8} {k : Nat} (h : k < R.length) : Al.has (R.take (k + 1)) t = (Al.has (R.take k) t || (R[k] == t)) := by
  rw [List.take_succ_eq_append_getElem h, has_snoc]
theorem has_of_take {R : List (List UInt8)} {t : List UInt8} {k : Nat} (h : k < R.length) (e : R[k] = t) : Al.has R t = true := by
  rw [Al.has_iff]; exact e ▸ List.getElem_mem h

set_option maxHeartbeats 400000 in
theorem Has_some (R : List (List UInt8)) (t : List UInt8) (g cap : Nat) (w : World) (hl : R.length ≤ cap) (hm : cap ≤ 9223372036854775807) (hc : ∀ k (h : k < R.length), w.cell? ⟨g, k, none⟩ = some (.string (bs R[k]))) :
    Calls Try.prog 79 #[.slice (some ⟨g, 0, none⟩) R.length cap, .string (bs t)] w fun e w' => e = .returned (.bool (Al.has R t)) ∧ w' = w := by
  have ht := bs_toList
  go_enter Try.func79, Try.ntmps79
  go_wp2
  go_loop [5] (fun i => ∃ k : Nat, k ≤ R.length ∧ i = .int .i64 k ∧ Al.has (R.take k) t = false) (fun i => R.length - (intOf i).toNat)
  case atStart => exact ⟨0, Nat.zero_le _, rfl, by simp [Al.has]⟩
  case round =>
    obtain ⟨k, hk, rfl, hh⟩ := hrel
    have HH : Hid (Al.has (R.take k) t = false) := hh
    clear hh
    by_cases hlt : k < R.length
    · by_cases e : R[k] = t
      · have HE : Hid (R[k] = t) := e
        have hcell : w.cell? ⟨g, k, none⟩ = some (.string (bs t)) := by rw [← e]; exact hc k hlt
        clear e hc
        go_wp2
        go_ret
        exact ⟨by rw [has_of_take hlt HE.out]; rfl, rfl⟩
      · have hcell := hc k hlt
        have hb : (R[k] == t) = false := by simp [e]
        have HB : Hid ((R[k] == t) = false) := hb
        clear hc e
        go_wp2
        go_round
        case rel => exact ⟨k + 1, by omega, by go_num, by rw [has_take_succ hlt, HH.out, HB.out]; rfl⟩
        case measure => simp [intOf]; omega
    · go_wp2
      go_ret
      exact ⟨by have := HH.out; rw [List.take_of_length_le (by omega)] at this; rw [this]; rfl, rfl⟩
set_option maxHeartbeats 400000 in
theorem Has_nil (t : List UInt8) (w : World) :
    Calls Try.prog 79 #[.slice none 0 0, .string (bs t)] w fun e w' => e = .returned (.bool (Al.has [] t)) ∧ w' = w := by
  go_enter Try.func79, Try.ntmps79
  go_wp2
  refine wp_loop_rounds 1 ?_
  rw [rounds_succ]
  go_wp2
  go_ret
  exact ⟨by simp [Al.has], rfl⟩
theorem Has_any (R : List (List UInt8)) (t : List UInt8) (v : Value) (w : World) (hr : RdS w v R) :
    Calls Try.prog 79 #[v, .string (bs t)] w fun e w' => e = .returned (.bool (Al.has R t)) ∧ w' = w := by
  rcases hr.shape with ⟨rfl, rfl⟩ | ⟨g, cap, rfl, hl, hm, _, hc⟩
  · exact Has_nil t w
  · exact Has_some R t g cap w hl hm hc
end Go.Proofs.Ytljafkdaljkanaa
