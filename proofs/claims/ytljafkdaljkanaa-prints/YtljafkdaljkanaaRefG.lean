import Derived.Test.YtljafkdaljkanaaRefF
import Derived.Test.YtljafkdaljkanaaParse
namespace Go.Proofs.Ytljafkdaljkanaa
open Go.RowKit

theorem extract_bs (s : ByteArray) (k j : Nat) : s.extract k j = bs ((s.data.toList.drop k).take (j - k)) := by
  apply ByteArray.ext
  apply Array.ext'
  rw [ByteArray.data_extract, bs_data]
  simp [List.take_drop]

set_option maxHeartbeats 400000 in
/-- A text of one statement, by the document. -/
theorem one_any (s : ByteArray) (w : World) (hs : s.size ≤ maxLen) :
    Calls Try.prog 77 #[.string s] w fun e w' => e = .returned (.tuple #[.int .i64 ((Al.oneP s.data.toList).1 : Nat), .int .i64 ((Al.oneP s.data.toList).2 : Nat)]) ∧ w' = w := by
  unfold maxLen at hs
  have hsz : s.data.toList.length = s.size := rfl
  by_cases h1 : 200 < s.size
  · have HF : Hid (Al.oneP s.data.toList = (1, 0)) := by rw [Hid, Al.oneP, if_pos (by omega)]
    clear hsz
    go_enter Try.func77, Try.ntmps77
    go_wp2
    go_ret2
    exact ⟨by rw [HF.out]; rfl, rfl⟩
  · obtain ⟨⟨j, ok⟩, hr⟩ : ∃ x, Al.refStmt s.data.toList 0 = x := ⟨_, rfl⟩
    have hle := Al.refStmt_le s.data.toList 0
    rw [hr] at hle
    simp only at hle
    cases ok with
    | false =>
      have HF : Hid (Al.oneP s.data.toList = (2, j)) := by rw [Hid, Al.oneP, if_neg (by omega), hr, if_pos (.inl rfl)]
      clear hsz
      go_enter Try.func77, Try.ntmps77
      go_wp2_with (go_at_call 81; refine (Stmt_any s 0 _ (by decide)).mono ?_; rintro e w' ⟨rfl, rfl⟩; rw [hr])
      go_ret2
      exact ⟨by rw [HF.out]; rfl, rfl⟩
    | true =>
      by_cases h2 : j < s.size
      · have HF : Hid (Al.oneP s.data.toList = (2, j)) := by rw [Hid, Al.oneP, if_neg (by omega), hr, if_pos (.inr (by simpa using h2))]
        clear hsz
        go_enter Try.func77, Try.ntmps77
        go_wp2_with (go_at_call 81; refine (Stmt_any s 0 _ (by decide)).mono ?_; rintro e w' ⟨rfl, rfl⟩; rw [hr])
        go_ret2
        exact ⟨by rw [HF.out]; rfl, rfl⟩
      · have HF : Hid (Al.oneP s.data.toList = (0, 0)) := by rw [Hid, Al.oneP, if_neg (by omega), hr, if_neg (by simp; omega)]
        clear hsz
        go_enter Try.func77, Try.ntmps77
        go_wp2_with (go_at_call 81; refine (Stmt_any s 0 _ (by decide)).mono ?_; rintro e w' ⟨rfl, rfl⟩; rw [hr])
        go_ret2
        exact ⟨by rw [HF.out]; rfl, rfl⟩

theorem map_bound {A : List Al.St} (h : Al.Good A) : ∀ r ∈ A.map Al.txt, r.length ≤ 1000000 := by
  intro r hr
  obtain ⟨a, ha, rfl⟩ := List.mem_map.1 hr
  have := Al.txt_len a (h.1 a ha)
  omega

set_option maxHeartbeats 1000000 in
/-- A program's text, by the document. -/
theorem Read_any (s : ByteArray) (w : World) (hs : s.size ≤ maxLen) :
    Calls Try.prog 52 #[.string s] w fun e w' => ∃ v, e = .returned (.tuple #[v, .int .i64 ((Al.loadP s.data.toList).1 : Nat), .int .i64 ((Al.loadP s.data.toList).2.1 : Nat)]) ∧
      w'.ownsRow w.heap.size 9 1 v ((Al.loadP s.data.toList).2.2.map Al.txt).length (((Al.loadP s.data.toList).2.2.map Al.txt).map sv) ∧ Below w.heap.size w w' := by
  unfold maxLen at hs
  have HSZ : Hid (s.data.toList.length = s.size) := rfl
  by_cases h1 : 200 < s.size
  · have HF : Hid (Al.loadP s.data.toList = (1, 0, [])) := by rw [Hid, Al.loadP, if_pos (by rw [HSZ.out]; omega)]
    go_enter Try.func52, Try.ntmps52
    go_wp2
    go_ret3
    exact ⟨.slice none 0 0, by rw [HF.out]; rfl, by rw [HF.out]; exact World.ownsRow_nil _ _ _ _, Below.refl _ _⟩
  · go_enter Try.func52, Try.ntmps52
    go_wp2
    go_loopw [5, 6] (fun v i wr => ∃ (k n : Nat) (A : List Al.St), k ≤ s.size ∧ i = .int .i64 k ∧ Al.Good A ∧ A.length ≤ k ∧ s.size ≤ n + k ∧ Al.parse s.data.toList n k A = Al.parse s.data.toList s.data.toList.length 0 [] ∧
      wr.ownsRow w.heap.size 9 1 v (A.map Al.txt).length ((A.map Al.txt).map sv) ∧ Below w.heap.size w wr) (fun _ i _ => s.size - (intOf i).toNat)
    case atStart => exact ⟨0, s.size, [], Nat.zero_le _, rfl, Al.good_nil, Nat.zero_le _, by omega, by rw [HSZ.out], World.ownsRow_nil _ _ _ _, Below.refl _ _⟩
    case round =>
      obtain ⟨k, n, A, hk, rfl, hgood, hlen, hfuel, hpar, hown, hbel⟩ := hrel
      have HP : Hid (Al.parse s.data.toList n k A = Al.parse s.data.toList s.data.toList.length 0 []) := hpar
      clear hpar
      have hsz := hbel.size
      by_cases hlt : k < s.size
      · obtain ⟨n, rfl⟩ : ∃ m, n = m + 1 := ⟨n - 1, by omega⟩
        by_cases hkd : Al.kindOf (s.data.toList.drop k) < 4
        · obtain ⟨y1, y2, y3, y4⟩ := Al.stmt_yes hkd
          have HP2 := HP.out
          rw [Al.parse_good _ _ _ _ (by rw [HSZ.out]; omega) hkd] at HP2
          have hwl := Al.withP_len A (Al.mkSt (Al.kindOf (s.data.toList.drop k)) (s.data.toList.drop k))
          have hgd := Al.withP_good hgood y3
          have hrw := Al.refWith_eq (A.map Al.txt) (Al.txt (Al.mkSt (Al.kindOf (s.data.toList.drop k)) (s.data.toList.drop k))) hgood.2
          rw [← Al.withP_txt] at hrw
          have hsl := Al.shpLen_ge (Al.kindOf (s.data.toList.drop k))
          rw [HSZ.out] at y2
          generalize Al.mkSt (Al.kindOf (s.data.toList.drop k)) (s.data.toList.drop k) = st at *
          generalize Al.shpLen (Al.kindOf (s.data.toList.drop k)) = q at *
          have hext : s.extract k (k + q) = bs (Al.txt st) := by rw [extract_bs s k (k + q), y4]; congr 2; omega
          have HRW : Hid (Al.refWith (A.map Al.txt) (Al.txt st) = (Al.withP A st).map Al.txt) := hrw
          have HP3 : Hid (Al.parse s.data.toList n (k + q) (Al.withP A st) = Al.parse s.data.toList s.data.toList.length 0 []) := HP2
          have HY : Hid (Al.refStmt s.data.toList k = (k + q, true)) := y1
          have htl := Al.txt_len st y3
          clear hrw HP HP2 hkd y1 y4
          go_wp2_with fail
          refine (Stmt_any s k _ (by omega)).mono ?_
          rintro e w1 ⟨rfl, rfl⟩
          rw [HY.out]
          go_wp2_with fail
          refine (With_any (A.map Al.txt) (Al.txt st) _ _ (ownsRow_zero hown) (by simp; omega) (by omega) (map_bound hgood)).mono ?_
          rintro e w2 ⟨v2, rfl, hown2, hbel2⟩
          rw [HRW.out] at hown2
          go_wp2_with fail
          go_roundw
          case rel => exact ⟨k + q, n, Al.withP A st, y2, by go_num, hgd, by omega, by omega, HP3.out, ownsRow_base hown2 hsz, hbel.trans (hbel2.mono hsz)⟩
          case measure => simp [intOf]; omega
        · have HY : Hid (Al.refStmt s.data.toList k = (k + Al.fur (s.data.toList.drop k) 4, false)) := Al.stmt_no hkd
          have hfl := Al.fur_le (s.data.toList.drop k) 4
          have HP2 := HP.out
          rw [Al.parse_bad _ _ _ _ (by rw [HSZ.out]; omega) hkd] at HP2
          have HF : Hid (Al.loadP s.data.toList = (2, k + Al.fur (s.data.toList.drop k) 4, [])) := by rw [Hid, Al.loadP, if_neg (by rw [HSZ.out]; omega), ← HP2, if_pos rfl]
          clear HP2 hkd
          generalize Al.fur (s.data.toList.drop k) 4 = q at *
          go_wp2_with fail
          refine (Stmt_any s k _ (by omega)).mono ?_
          rintro e w1 ⟨rfl, rfl⟩
          rw [HY.out]
          go_wp2_with fail
          go_ret3
          exact ⟨.slice none 0 0, by rw [HF.out]; simp, by rw [HF.out]; exact World.ownsRow_nil _ _ _ _, hbel⟩
      · have HP2 := HP.out
        rw [Al.parse_end _ _ _ _ (by rw [HSZ.out]; omega)] at HP2
        by_cases hful : 24 < A.length
        · have HF : Hid (Al.loadP s.data.toList = (3, 0, [])) := by rw [Hid, Al.loadP, if_neg (by rw [HSZ.out]; omega), ← HP2, if_neg (by simp), if_pos hful]
          clear HP2
          rcases hown.2 with ⟨rfl, h0⟩ | ⟨g, cap, cur, rfl, _⟩
          · simp at h0; rw [h0] at hful; simp at hful
          · go_wp2
            go_ret3
            exact ⟨.slice none 0 0, by rw [HF.out]; rfl, by rw [HF.out]; exact World.ownsRow_nil _ _ _ _, hbel⟩
        · have HF : Hid (Al.loadP s.data.toList = (0, 0, A)) := by rw [Hid, Al.loadP, if_neg (by rw [HSZ.out]; omega), ← HP2, if_neg (by simp), if_neg hful]
          clear HP2
          have hown0 := hown
          rcases hown.2 with ⟨rfl, h0⟩ | ⟨g, cap, cur, rfl, _⟩
          · go_wp2
            go_ret3
            exact ⟨_, by rw [HF.out]; rfl, by rw [HF.out]; exact hown0, hbel⟩
          · have hl : ((A.map Al.txt).length : Int) = (A.length : Int) := by simp
            go_wp2
            go_ret3
            exact ⟨_, by rw [HF.out]; rfl, by rw [HF.out]; exact hown0, hbel⟩
end Go.Proofs.Ytljafkdaljkanaa
