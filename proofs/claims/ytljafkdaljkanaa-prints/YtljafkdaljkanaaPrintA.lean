import Derived.Test.YtljafkdaljkanaaLawA
import Derived.Lib.AppendStr
namespace Go.Proofs.Ytljafkdaljkanaa
open Go.RowKit

/-- A program's text. -/
def cat (A : List Al.St) : List UInt8 := (A.map Al.txt).flatten
theorem cat_snoc (A : List Al.St) (s : Al.St) : cat (A ++ [s]) = cat A ++ Al.txt s := by simp [cat]
theorem cat_succ {A : List Al.St} {k : Nat} (h : k < A.length) : cat (A.take (k + 1)) = cat (A.take k) ++ Al.txt A[k] := by rw [List.take_succ_eq_append_getElem h, cat_snoc]
theorem txt_le (s : Al.St) : (Al.txt s).length ≤ 6 := by
  simp only [Al.txt, List.length_map, Al.shp_length]
  exact (Al.shpLen_ge s.1).2
theorem cat_le : ∀ (A : List Al.St), (cat A).length ≤ 6 * A.length
  | [] => by simp [cat]
  | a :: A => by
    have h1 := txt_le a
    have h2 := cat_le A
    simp only [cat, List.map_cons, List.flatten_cons, List.length_append, List.length_cons] at h2 ⊢
    omega

theorem convert_nil (w : World) : (convert 67 9 (.slice none 0 0)).run Try.prog w = .ok (.string (bs [])) w := by
  rw [run_convert_bytes_string w 67 9 5 none 0 0 Try.underlying67 Try.underlying5 Try.underlying9]
  rfl
theorem convert_any {w : World} {base : Nat} {v : Value} {l : List UInt8} (h : w.ownsRow base 5 1 v l.length (l.map bv)) : (convert 67 9 v).run Try.prog w = .ok (.string (bs l)) w := by
  rcases h.2 with ⟨rfl, hn⟩ | ⟨g, cap, cur, rfl, _, hg, hl, hm, hsz, htk⟩
  · rw [List.eq_nil_of_length_eq_zero hn]; exact convert_nil w
  · exact run_convert_bytes_back w 67 9 5 ⟨g, 0, none⟩ cap l Try.underlying67 Try.underlying5 Try.underlying9 (fun j hj => h.cells (g := g) rfl j _ (by simp [bv, hj]))

theorem round_frame8 {w1 wr w2 : World} {B : Nat} {S : Al.St} {v : Value} {n : Nat} {xs : List Value} (hown : wr.ownsRow B 5 1 v n xs) (hbel : Below B w1 wr) (hsz : B ≤ wr.heap.size)
    (hbel2 : Below (wr.alloc (.cells (stA S) 72)).heap.size (wr.alloc (.cells (stA S) 72)) w2) :
    w2.ownsRow B 5 1 v n xs ∧ Below B w1 w2 ∧ B ≤ w2.heap.size := by
  have h1 := hbel2.size
  rw [World.size_alloc] at h1
  exact ⟨ownsRow_below (hown.alloc _) hbel2, (hbel.alloc hsz _).trans (hbel2.mono (by rw [World.size_alloc]; omega)), by omega⟩

set_option maxRecDepth 100000 in
set_option maxHeartbeats 1000000 in
theorem aPrint_some (b : Nat) (A : List Al.St) (g cap : Nat) (w : World) (hb : w.cell? ⟨b, 0, none⟩ = some (.slice (some ⟨g, 0, none⟩) A.length cap)) (hg : g < w.heap.size)
    (hc : ∀ k (h : k < A.length), w.cell? ⟨g, k * 5, none⟩ = some (.int .i64 (A[k].1 : Nat)) ∧ w.cell? ⟨g, k * 5 + 1, none⟩ = some (.int .u8 (A[k].2.1.toNat : Nat)) ∧ w.cell? ⟨g, k * 5 + 2, none⟩ = some (.int .u8 (A[k].2.2.1.toNat : Nat)) ∧
        w.cell? ⟨g, k * 5 + 3, none⟩ = some (.int .u8 (A[k].2.2.2.1.toNat : Nat)) ∧ w.cell? ⟨g, k * 5 + 4, none⟩ = some (.int .u8 (A[k].2.2.2.2.toNat : Nat)))
    (hs : A.length ≤ 24) :
    Calls Try.prog 16 #[.pointer (some ⟨b, 0, none⟩)] w fun e w' => e = .returned (.string (bs (cat A))) ∧ Below w.heap.size w w' := by
  obtain ⟨i0, hi, hz0, hz1, hz2⟩ := info_parts Try.info5
  have HC := hid hc
  clear hc
  go_enter Try.func16, Try.ntmps16
  go_wp2_with fail
  go_loopw [3, 12] (fun v i wr => ∃ k : Nat, k ≤ A.length ∧ i = .int .i64 k ∧ wr.ownsRow w.heap.size 5 1 v (cat (A.take k)).length ((cat (A.take k)).map bv) ∧ Below w.heap.size w wr) (fun _ i _ => A.length - (intOf i).toNat)
  case atStart => exact ⟨0, Nat.zero_le _, rfl, World.ownsRow_nil _ _ _ _, Below.refl _ _⟩
  case round =>
    obtain ⟨k, hk, rfl, hown, hbel⟩ := hrel
    have hsz := hbel.size
    have hcl := cat_le (A.take k)
    have htl : (A.take k).length ≤ k := List.length_take_le _ _
    by_cases hlt : k < A.length
    · have HCS := hid (cat_succ hlt)
      generalize cat (A.take k) = L at *
      obtain ⟨c0, c1, c2, c3, c4⟩ := HC.out k hlt
      generalize A[k] = a at *
      have HTA := hid (text_any a)
      have hta := txt_le a
      obtain ⟨X, hX⟩ : ∃ X, Al.txt a = X := ⟨_, rfl⟩
      rw [hX] at HTA hta HCS
      clear hX
      obtain ⟨ak, ax, ay, ao, af⟩ := a
      simp only [stA] at HTA
      have d0 := (hbel.cell (p := ⟨g, k * 5, none⟩) hg).trans c0
      have d1 := (hbel.cell (p := ⟨g, k * 5 + 1, none⟩) hg).trans c1
      have d2 := (hbel.cell (p := ⟨g, k * 5 + 2, none⟩) hg).trans c2
      have d3 := (hbel.cell (p := ⟨g, k * 5 + 3, none⟩) hg).trans c3
      have d4 := (hbel.cell (p := ⟨g, k * 5 + 4, none⟩) hg).trans c4
      simp only at d0 d1 d2 d3 d4
      clear c0 c1 c2 c3 c4
      go_wp2_with fail
      refine (HTA.out _).mono ?_
      rintro e w2 ⟨rfl, hbel2⟩
      obtain ⟨hown2, hbel3, hsz2⟩ := round_frame8 (S := (ak, ax, ay, ao, af)) hown hbel hsz hbel2
      have hbX : (bs X).size = X.length := rfl
      clear hown hbel hbel2 d0 d1 d2 d3 d4 hb
      go_wp2_with (at_builtin; refine Lib.wpList_append_own_string _ rfl (.tmp 18) (.tmp 19) 67 9 rfl w.heap.size 5 i0 Try.underlying67 Try.underlying9 hi hz0 hz1 hz2 _ L.length (L.map bv) rfl hown2 (bs X) rfl (by rw [hbX]; unfold maxLen; omega) (by rw [hbX]; omega) hsz2 ?_; intro v3 w3 hown3 hgr _; have hbel4 := hbel3.grown hgr hsz2 (fun q hq => (hown2.lt q hq).1))
      go_roundw
      case rel => exact ⟨k + 1, by omega, by go_num, by rw [HCS.out, List.map_append, List.length_append]; exact hown3, hbel4⟩
      case measure => simp [intOf]; omega
    · rw [List.take_of_length_le (by omega)] at hown
      have hcv := convert_any hown
      clear hown
      go_wp2
      go_ret
      exact ⟨rfl, hbel⟩
set_option maxRecDepth 100000 in
set_option maxHeartbeats 1000000 in
theorem aPrint_nil (b : Nat) (w : World) (hb : w.cell? ⟨b, 0, none⟩ = some (.slice none 0 0)) :
    Calls Try.prog 16 #[.pointer (some ⟨b, 0, none⟩)] w fun e w' => e = .returned (.string (bs (cat []))) ∧ Below w.heap.size w w' := by
  have hcv := convert_nil w
  go_enter Try.func16, Try.ntmps16
  go_wp2_with fail
  refine wp_loop_rounds 1 ?_
  rw [rounds_succ]
  go_wp2_with fail
  go_ret
  exact ⟨rfl, Below.refl _ _⟩
theorem aPrint_any (b : Nat) (A : List Al.St) (w : World) (hS : ASess w b A) (hs : A.length ≤ 24) :
    Calls Try.prog 16 #[.pointer (some ⟨b, 0, none⟩)] w fun e w' => e = .returned (.string (bs (cat A))) ∧ Below w.heap.size w w' := by
  obtain ⟨v, hv, hr⟩ := hS.ex
  have hcv := cell_of_one hv
  rcases hr.shape with ⟨rfl, rfl⟩ | ⟨g, cap, rfl, hl, hm, hg, hc⟩
  · exact aPrint_nil b w hcv
  · exact aPrint_some b A g cap w hcv hg hc hs

theorem map_take (A : List Al.St) (k : Nat) : cat (A.take k) = ((A.map Al.txt).take k).flatten := by simp [cat, List.map_take]
theorem bs_append (a b : List UInt8) : bs a ++ bs b = bs (a ++ b) := by
  have := ByteArray.mk_append_mk a b
  exact this

set_option maxRecDepth 100000 in
set_option maxHeartbeats 1000000 in
theorem rPrint_some (b : Nat) (A : List Al.St) (g cap : Nat) (w : World) (hb : w.cell? ⟨b, 0, none⟩ = some (.slice (some ⟨g, 0, none⟩) A.length cap))
    (hc : ∀ k (h : k < A.length), w.cell? ⟨g, k, none⟩ = some (.string (bs (Al.txt A[k])))) (hs : A.length ≤ 24) :
    Calls Try.prog 65 #[.pointer (some ⟨b, 0, none⟩)] w fun e w' => e = .returned (.string (bs (cat A))) ∧ w' = w := by
  have hba := bs_append
  go_enter Try.func65, Try.ntmps65
  go_wp2_with fail
  go_loop [3, 4] (fun t i => ∃ k : Nat, k ≤ A.length ∧ i = .int .i64 k ∧ t = .string (bs (cat (A.take k)))) (fun _ i => A.length - (intOf i).toNat)
  case atStart => exact ⟨0, Nat.zero_le _, rfl, rfl⟩
  case round =>
    obtain ⟨k, hk, rfl, rfl⟩ := hrel
    have hcl := cat_le (A.take k)
    have htl : (A.take k).length ≤ k := List.length_take_le _ _
    by_cases hlt : k < A.length
    · have HCS := hid (cat_succ hlt)
      have hcell := hc k hlt
      have hta := txt_le A[k]
      generalize Al.txt A[k] = X at *
      generalize cat (A.take k) = L at *
      have h1 : (bs L).size = L.length := rfl
      have h2 : (bs X).size = X.length := rfl
      clear hc
      go_wp2
      go_round
      case rel => exact ⟨k + 1, by omega, by go_num, by rw [HCS.out]⟩
      case measure => simp [intOf]; omega
    · rw [List.take_of_length_le (by omega)]
      clear hc
      go_wp2
      go_ret
      exact ⟨rfl, rfl⟩
set_option maxRecDepth 100000 in
set_option maxHeartbeats 1000000 in
theorem rPrint_nil (b : Nat) (w : World) (hb : w.cell? ⟨b, 0, none⟩ = some (.slice none 0 0)) :
    Calls Try.prog 65 #[.pointer (some ⟨b, 0, none⟩)] w fun e w' => e = .returned (.string (bs (cat []))) ∧ w' = w := by
  go_enter Try.func65, Try.ntmps65
  go_wp2_with fail
  refine wp_loop_rounds 1 ?_
  rw [rounds_succ]
  go_wp2_with fail
  go_ret
  exact ⟨rfl, rfl⟩
theorem rPrint_any (b : Nat) (A : List Al.St) (w : World) (hS : RSess w b A) (hs : A.length ≤ 24) :
    Calls Try.prog 65 #[.pointer (some ⟨b, 0, none⟩)] w fun e w' => e = .returned (.string (bs (cat A))) ∧ w' = w := by
  obtain ⟨v, hv, hr⟩ := hS.ex
  have hcv := cell_of_one hv
  rcases hr.shape with ⟨rfl, hn⟩ | ⟨g, cap, rfl, hl, hm, hg, hc⟩
  · have : A = [] := by simpa using hn
    subst this
    exact rPrint_nil b w hcv
  · refine rPrint_some b A g cap w (by simpa using hcv) (fun k hk => ?_) hs
    have := hc k (by simpa using hk)
    simpa using this
end Go.Proofs.Ytljafkdaljkanaa
