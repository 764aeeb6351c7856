import Derived.Test.YtljafkdaljkanaaProgG
namespace Go.Proofs.Ytljafkdaljkanaa
open Go.RowKit

set_option maxRecDepth 100000 in
set_option maxHeartbeats 1000000 in
theorem readProgram_any (s : ByteArray) (w : World) (hs : s.size ≤ 200) :
    Calls Try.prog 63 #[.string s] w fun e w' => ∃ v, e = .returned (.tuple #[v, .int .i64 ((Al.parse s.data.toList s.data.toList.length 0 []).2.1 : Nat), .bool (Al.parse s.data.toList s.data.toList.length 0 []).2.2]) ∧
      w'.ownsRow w.heap.size 72 5 v (Al.parse s.data.toList s.data.toList.length 0 []).1.length (flat (Al.parse s.data.toList s.data.toList.length 0 []).1) ∧ Below w.heap.size w w' := by
  have HSZ : Hid (s.data.toList.length = s.size) := rfl
  obtain ⟨P, hP⟩ : ∃ P, Al.parse s.data.toList s.data.toList.length 0 [] = P := ⟨_, rfl⟩
  rw [hP]
  have HP0 := hid hP
  clear hP
  go_enter Try.func63, Try.ntmps63
  go_wp2
  go_loopw [5, 6] (fun v i wr => ∃ (k n : Nat) (A : List Al.St), k ≤ s.size ∧ i = .int .i64 k ∧ A.length ≤ k ∧ s.size ≤ n + k ∧ Al.parse s.data.toList n k A = P ∧
    wr.ownsRow w.heap.size 72 5 v A.length (flat A) ∧ Below w.heap.size w wr) (fun _ i _ => s.size - (intOf i).toNat)
  case atStart => exact ⟨0, s.size, [], Nat.zero_le _, rfl, Nat.zero_le _, by omega, by rw [← HP0.out, HSZ.out], World.ownsRow_nil _ _ _ _, Below.refl _ _⟩
  case round =>
    obtain ⟨k, n, A, hk, rfl, hlen, hfuel, hpar, hown, hbel⟩ := hrel
    have HP := hid hpar
    clear hpar
    have hsz := hbel.size
    by_cases hlt : k < s.size
    · obtain ⟨n, rfl⟩ : ∃ m, n = m + 1 := ⟨n - 1, by omega⟩
      have HRS := hid (fun wx => readStatement_any s k wx hk (by omega))
      by_cases hkd : Al.kindOf (s.data.toList.drop k) < 4
      · obtain ⟨y1, y2, _, _⟩ := Al.stmt_yes hkd
        have HP2 := HP.out
        rw [Al.parse_good _ _ _ _ (by rw [HSZ.out]; omega) hkd] at HP2
        have hwl := Al.withP_len A (Al.mkSt (Al.kindOf (s.data.toList.drop k)) (s.data.toList.drop k))
        have hsl := Al.shpLen_ge (Al.kindOf (s.data.toList.drop k))
        have hrd : rdSt (s.data.toList.drop k) = Al.mkSt (Al.kindOf (s.data.toList.drop k)) (s.data.toList.drop k) := by rw [rdSt, if_pos hkd]
        rw [HSZ.out] at y2
        rw [y1, hrd] at HRS
        generalize Al.mkSt (Al.kindOf (s.data.toList.drop k)) (s.data.toList.drop k) = st at *
        generalize Al.shpLen (Al.kindOf (s.data.toList.drop k)) = q at *
        have HP3 := hid HP2
        have HWI := hid (fun v wx hr => with_any A st v wx hr (by omega))
        obtain ⟨rk, rx, ry, ro, rf⟩ := st
        simp only [stA] at HRS HWI
        clear hrd HP HP2 hkd y1
        go_wp2_with fail
        refine (HRS.out _).mono ?_
        rintro e w1 ⟨rfl, hbel1⟩
        have hown1 := ownsRow_below hown hbel1
        have hbw1 := hbel.trans (hbel1.mono hsz)
        have hsz1 := hbw1.size
        clear hown hbel hbel1
        go_wp2_with fail
        refine (HWI.out _ _ (ownsRow_zero (hown1.alloc _))).mono ?_
        rintro e w2 ⟨v2, rfl, hown2, hbel2⟩
        rw [World.size_alloc] at hown2 hbel2
        go_wp2_with fail
        go_roundw
        case rel => exact ⟨k + q, n, Al.withP A (rk, rx, ry, ro, rf), y2, by go_num, by omega, by omega, HP3.out, ownsRow_base hown2 (by omega), (hbw1.alloc hsz1 _).trans (hbel2.mono (by omega))⟩
        case measure => simp [intOf]; omega
      · have HPB := HP.out
        rw [Al.parse_bad _ _ _ _ (by rw [HSZ.out]; omega) hkd] at HPB
        have HY := Al.stmt_no hkd
        have hfl := Al.fur_le (s.data.toList.drop k) 4
        rw [HY] at HRS
        generalize Al.fur (s.data.toList.drop k) 4 = q at *
        generalize rdSt (s.data.toList.drop k) = st at *
        obtain ⟨rk, rx, ry, ro, rf⟩ := st
        simp only [stA] at HRS
        have HPC := hid HPB
        clear HY HPB hkd HP
        go_wp2_with fail
        refine (HRS.out _).mono ?_
        rintro e w1 ⟨rfl, hbel1⟩
        have hbw1 := hbel.trans (hbel1.mono hsz)
        have hsz1 := hbw1.size
        clear hown hbel hbel1
        go_wp2_with fail
        go_ret3
        exact ⟨.slice none 0 0, by rw [← HPC.out]; simp, by rw [← HPC.out]; exact World.ownsRow_nil _ _ _ _, hbw1.alloc hsz1 _⟩
    · have HPE := HP.out
      rw [Al.parse_end _ _ _ _ (by rw [HSZ.out]; omega)] at HPE
      have HPF := hid HPE
      clear HPE HP
      go_wp2
      go_ret3
      exact ⟨_, by rw [← HPF.out]; rfl, by rw [← HPF.out]; exact hown, hbel⟩
end Go.Proofs.Ytljafkdaljkanaa
