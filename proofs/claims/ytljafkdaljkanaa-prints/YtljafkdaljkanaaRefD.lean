import Derived.Test.YtljafkdaljkanaaRefB
import Derived.Test.YtljafkdaljkanaaRefC
namespace Go.Proofs.Ytljafkdaljkanaa
open Go.RowKit

/-- The document's reader of a statement. -/
theorem Stmt_any (s : ByteArray) (k : Nat) (w : World) (h1 : (k : Int) ≤ 1000000) :
    Calls Try.prog 81 #[.string s, .int .i64 k] w fun e w' => e = .returned (.tuple #[.int .i64 ((Al.refStmt s.data.toList k).1 : Nat), .bool (Al.refStmt s.data.toList k).2]) ∧ w' = w := by
  by_cases c0 : Al.vB (Al.bt s.data.toList k) = true
  · by_cases c1 : Al.bt s.data.toList (k + 1) = 46
    · by_cases c2 : Al.fB (Al.bt s.data.toList (k + 2)) = true
      · by_cases c3 : Al.bt s.data.toList (k + 3) = 61
        · by_cases c4 : Al.vB (Al.bt s.data.toList (k + 4)) = true
          · by_cases c5 : Al.bt s.data.toList (k + 5) = 59
            · exact Stmt_f s k w h1 c0 c1 c2 c3 c4 c5
            · exact Stmt_e s k w h1 c0 c1 c2 c3 c4 c5
          · exact Stmt_d s k w h1 c0 c1 c2 c3 c4
        · exact Stmt_c s k w h1 c0 c1 c2 c3
      · exact Stmt_b s k w h1 c0 c1 c2
    · by_cases c2 : Al.bt s.data.toList (k + 1) = 61
      · by_cases c3 : Al.bt s.data.toList (k + 2) = 64
        · by_cases c4 : Al.oB (Al.bt s.data.toList (k + 3)) = true
          · by_cases c5 : Al.bt s.data.toList (k + 4) = 59
            · exact Stmt_j s k w h1 c0 c2 c3 c4 c5
            · exact Stmt_i s k w h1 c0 c2 c3 c4 c5
          · exact Stmt_h s k w h1 c0 c2 c3 c4
        · by_cases c4 : Al.vB (Al.bt s.data.toList (k + 2)) = true
          · by_cases c5 : Al.bt s.data.toList (k + 3) = 46
            · by_cases c6 : Al.fB (Al.bt s.data.toList (k + 4)) = true
              · by_cases c7 : Al.bt s.data.toList (k + 5) = 59
                · exact Stmt_n s k w h1 c0 c2 c3 c4 c5 c6 c7
                · exact Stmt_m s k w h1 c0 c2 c3 c4 c5 c6 c7
              · exact Stmt_l s k w h1 c0 c2 c3 c4 c5 c6
            · by_cases c6 : Al.bt s.data.toList (k + 3) = 59
              · exact Stmt_o s k w h1 c0 c2 c3 c4 c5 c6
              · exact Stmt_p s k w h1 c0 c2 c3 c4 c5 c6
          · exact Stmt_k s k w h1 c0 c2 c3 c4
      · exact Stmt_g s k w h1 c0 c1 c2
  · exact Stmt_a s k w h1 c0

/-- The order of texts. -/
theorem lt_drop {a b : List UInt8} : ∀ (k : Nat), a.take k = b.take k → k ≤ a.length → k ≤ b.length → Al.lt a b = Al.lt (a.drop k) (b.drop k) := by
  intro k
  induction k generalizing a b with
  | zero => intros; simp
  | succ k ih =>
    intro h ha hb
    match a, b, ha, hb with
    | x :: a, y :: b, ha, hb =>
      simp only [List.take_succ_cons, List.cons.injEq] at h
      obtain ⟨rfl, h⟩ := h
      have := ih h (by simpa using ha) (by simpa using hb)
      simp only [List.drop_succ_cons]
      rw [← this]
      simp [Al.lt, Op.bytesLess]
theorem take_snoc (s : ByteArray) (k : Nat) (h : k < s.size) : s.data.toList.take (k + 1) = s.data.toList.take k ++ [s[k]] := by
  rw [List.take_succ_eq_append_getElem (by simpa using h)]; rfl
theorem drop_cons (s : ByteArray) (k : Nat) (h : k < s.size) : s.data.toList.drop k = s[k] :: s.data.toList.drop (k + 1) := by
  rw [List.drop_eq_getElem_cons (by simpa using h)]; rfl
theorem drop_end (s : ByteArray) (k : Nat) (h : s.size ≤ k) : s.data.toList.drop k = [] := by
  rw [List.drop_eq_nil_iff]; simpa using h
theorem lt_part {s t : ByteArray} {k : Nat} (h1 : k < s.size) (h2 : k < t.size) (he : s.data.toList.take k = t.data.toList.take k) (hne : s[k].toNat ≠ t[k].toNat) :
    Al.lt s.data.toList t.data.toList = decide (s[k].toNat < t[k].toNat) := by
  rw [lt_drop k he (by simp; omega) (by simp; omega), drop_cons s k h1, drop_cons t k h2]
  have : ¬ s[k] = t[k] := fun e => hne (by rw [e])
  simp [Al.lt, Op.bytesLess, this, UInt8.lt_iff_toNat_lt]
theorem lt_end {s t : ByteArray} {k : Nat} (hk1 : k ≤ s.size) (hk2 : k ≤ t.size) (he : s.data.toList.take k = t.data.toList.take k) (hend : s.size ≤ k ∨ t.size ≤ k) :
    Al.lt s.data.toList t.data.toList = decide (s.size < t.size) := by
  rw [lt_drop k he (by simp; omega) (by simp; omega)]
  by_cases h2 : t.size ≤ k
  · rw [drop_end t k h2]
    have : ¬ s.size < t.size := by omega
    cases s.data.toList.drop k <;> simp [Al.lt, Op.bytesLess, this]
  · rw [drop_end s k (by omega), drop_cons t k (by omega)]
    have : s.size < t.size := by omega
    simp [Al.lt, Op.bytesLess, this]

set_option maxHeartbeats 800000 in
theorem Below_any (s t : ByteArray) (w : World) (hs : s.size ≤ 1000000) (_ht : t.size ≤ 1000000) :
    Calls Try.prog 90 #[.string s, .string t] w fun e w' => e = .returned (.bool (Al.lt s.data.toList t.data.toList)) ∧ ∃ n, w' = w.drewN n := by
  go_enter Try.func90, Try.ntmps90
  go_wp2
  go_loopw [5] (fun i wr => ∃ k : Nat, k ≤ s.size ∧ k ≤ t.size ∧ i = .int .i64 k ∧ s.data.toList.take k = t.data.toList.take k ∧ ∃ n, wr = w.drewN n) (fun i _ => s.size - (intOf i).toNat)
  case atStart => exact ⟨0, Nat.zero_le _, Nat.zero_le _, rfl, rfl, 0, rfl⟩
  case round =>
    obtain ⟨k, hk1, hk2, rfl, he, n, rfl⟩ := hrel
    have HE : Hid (s.data.toList.take k = t.data.toList.take k) := he
    clear he
    by_cases l1 : k < s.size
    · by_cases l2 : k < t.size
      · by_cases hne : s[k].toNat = t[k].toNat
        · have HN : Hid (s[k].toNat = t[k].toNat) := hne
          have hb : ((s[k].toNat : Int) != (t[k].toNat : Int)) = false := by simp [hne]
          clear hne
          go_wp2_with fail
          go_quiet (fail)
          go_wp2_with fail
          go_roundw
          case rel => exact ⟨k + 1, by omega, by omega, by go_num, by rw [take_snoc s k l1, take_snoc t k l2, HE.out, UInt8.toNat_inj.1 HN.out], _, rfl⟩
          case measure => simp [intOf]; omega
        · have HN : Hid (s[k].toNat ≠ t[k].toNat) := hne
          have hb : ((s[k].toNat : Int) != (t[k].toNat : Int)) = true := by simp; omega
          clear hne
          go_wp2_with fail
          go_quiet (fail)
          go_wp2_with fail
          go_quiet (fail)
          go_wp2_with fail
          go_ret
          refine ⟨?_, _, by simp only [World.drewN_drewN]; rfl⟩
          rw [lt_part l1 l2 HE.out HN.out]; simp
      · go_wp2
        go_ret
        exact ⟨by rw [lt_end hk1 hk2 HE.out (.inr (by omega))]; simp, n, rfl⟩
    · have hd : decide ((k : Int) < (s.size : Int)) = false := by simp; omega
      go_wp2
      go_ret
      exact ⟨by rw [lt_end hk1 hk2 HE.out (.inl (by omega))]; simp, n, rfl⟩
end Go.Proofs.Ytljafkdaljkanaa
