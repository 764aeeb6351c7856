import Derived.Test.YtmjlcajcobbcgabXf
import Derived.Laws.StructEq
import Derived.Test.YtmjlcajcobbcgabXc
namespace Go.Proofs.Ytmjlcajcobbcgab
open Go.RowKit

def flat (A : List Al.St) : List Value := A.flatMap (fun s => (stA s).toList)
theorem flat_snoc (A : List Al.St) (s : Al.St) : flat (A ++ [s]) = flat A ++ (stA s).toList := by simp [flat]
theorem flat_append (A B : List Al.St) : flat (A ++ B) = flat A ++ flat B := by simp [flat]
theorem flat_len (A : List Al.St) : (flat A).length = A.length * 5 := by
  induction A with
  | nil => rfl
  | cons a A ih =>
    have h5 : (stA a).toList.length = 5 := rfl
    simp only [flat, List.flatMap_cons, List.length_append, List.length_cons] at ih ⊢
    rw [ih, h5]; omega
theorem flat_get : ∀ (A : List Al.St) (k j : Nat) (h : k < A.length), j < 5 → (flat A)[k * 5 + j]? = (stA A[k])[j]?
  | [], _, _, h, _ => by simp at h
  | a :: A, 0, j, _, hj => by
    have h5 : (stA a).toList.length = 5 := rfl
    simp only [flat, List.flatMap_cons, Nat.zero_mul, Nat.zero_add, List.getElem_cons_zero]
    rw [List.getElem?_append_left (by omega)]
    simp
  | a :: A, k + 1, j, h, hj => by
    have h5 : (stA a).toList.length = 5 := rfl
    have := flat_get A k j (by simpa using h) hj
    simp only [flat, List.flatMap_cons, List.getElem_cons_succ] at this ⊢
    rw [List.getElem?_append_right (by omega), h5, ← this]
    congr 1; omega

/-- The slice v reads as the list A of statements. -/
def RdA (w : World) (v : Value) (A : List Al.St) : Prop := w.ownsRow 0 93 5 v A.length (flat A)

theorem RdA.shape {w : World} {v : Value} {A : List Al.St} (h : RdA w v A) :
    (v = .slice none 0 0 ∧ A = []) ∨ ∃ g cap, v = .slice (some ⟨g, 0, none⟩) A.length cap ∧ A.length ≤ cap ∧ cap ≤ 9223372036854775807 ∧ g < w.heap.size ∧
      ∀ k (h : k < A.length), w.cell? ⟨g, k * 5, none⟩ = some (.int .i64 (A[k].1 : Nat)) ∧ w.cell? ⟨g, k * 5 + 1, none⟩ = some (.int .u8 (A[k].2.1.toNat : Nat)) ∧ w.cell? ⟨g, k * 5 + 2, none⟩ = some (.int .u8 (A[k].2.2.1.toNat : Nat)) ∧
        w.cell? ⟨g, k * 5 + 3, none⟩ = some (.int .u8 (A[k].2.2.2.1.toNat : Nat)) ∧ w.cell? ⟨g, k * 5 + 4, none⟩ = some (.int .u8 (A[k].2.2.2.2.toNat : Nat)) := by
  rcases h.2 with ⟨rfl, hn⟩ | ⟨g, cap, cur, rfl, _, hg, hl, hm, hsz, htk⟩
  · exact .inl ⟨rfl, List.eq_nil_of_length_eq_zero hn⟩
  · refine .inr ⟨g, cap, rfl, hl, hm, (Array.getElem?_eq_some_iff.1 hg).1, fun k hk => ?_⟩
    have key : ∀ j, j < 5 → ∀ u, (stA A[k])[j]? = some u → w.cell? ⟨g, k * 5 + j, none⟩ = some u := fun j hj u hu => by
      have := h.cells (g := g) rfl (k * 5 + j) u (by rw [flat_get A k j hk hj]; exact hu)
      have hadd : (⟨g, 0, none⟩ : Addr).add (k * 5 + j) = ⟨g, k * 5 + j, none⟩ := by unfold Addr.add; split <;> simp_all
      rwa [hadd] at this
    exact ⟨key 0 (by omega) _ rfl, key 1 (by omega) _ rfl, key 2 (by omega) _ rfl, key 3 (by omega) _ rfl, key 4 (by omega) _ rfl⟩

theorem RdA.below {w w' : World} {v : Value} {A : List Al.St} (h : RdA w v A) (hb : Below w.heap.size w w') : RdA w' v A := by
  refine ⟨h.1, ?_⟩
  rcases h.2 with hn | ⟨g, cap, cur, rfl, hg0, hg, rest⟩
  · exact .inl hn
  · exact .inr ⟨g, cap, cur, rfl, hg0, by rw [hb.block g (Array.getElem?_eq_some_iff.1 hg).1]; exact hg, rest⟩

theorem ownsRow_below {w w' : World} {base : Nat} {e : TypeId} {size : Nat} {v : Value} {n : Nat} {xs : List Value} (h : w.ownsRow base e size v n xs) (hb : Below w.heap.size w w') : w'.ownsRow base e size v n xs := by
  refine ⟨h.1, ?_⟩
  rcases h.2 with hn | ⟨g, cap, cur, rfl, hg0, hg, rest⟩
  · exact .inl hn
  · exact .inr ⟨g, cap, cur, rfl, hg0, by rw [hb.block g (Array.getElem?_eq_some_iff.1 hg).1]; exact hg, rest⟩
/-- A round's new block, and a call behind it that leaves it alone. -/
theorem round_frame {w1 wr w2 : World} {B : Nat} {S : Al.St} {v : Value} {n : Nat} {xs : List Value} (hown : wr.ownsRow B 93 5 v n xs) (hbel : Below B w1 wr) (hsz : B ≤ wr.heap.size)
    (hbel2 : Below (wr.alloc (.cells (stA S) 93)).heap.size (wr.alloc (.cells (stA S) 93)) w2) :
    w2.ownsRow B 93 5 v n xs ∧ Below B w1 w2 ∧ B ≤ w2.heap.size ∧ w2.heap[wr.heap.size]? = some (.cells (stA S) 93 (0, 0)) := by
  have h1 := hbel2.size
  rw [World.size_alloc] at h1
  refine ⟨ownsRow_below (hown.alloc _) hbel2, (hbel.alloc hsz _).trans (hbel2.mono (by rw [World.size_alloc]; omega)), by omega, ?_⟩
  rw [hbel2.block _ (by rw [World.size_alloc]; omega)]
  exact heap_alloc_new wr _

theorem Try.info93 : (Try.prog.info? 93).map (fun i => (i.zero, i.size, i.bytes)) = some (some (.agg (stA (0, 0, 0, 0, 0))), 5, 16) := by kernel_rfl

theorem fil_succ {A : List Al.St} {p : Al.St → Bool} {k : Nat} (h : k < A.length) : (A.take (k + 1)).filter p = (A.take k).filter p ++ (if p A[k] = true then [A[k]] else []) := by
  rw [List.take_succ_eq_append_getElem h, List.filter_append]
  by_cases e : p A[k] = true
  · simp [e]
  · simp [e]
theorem fil_len {A : List Al.St} {p : Al.St → Bool} {k : Nat} : ((A.take k).filter p).length ≤ k := Nat.le_trans (List.length_filter_le _ _) (List.length_take_le _ _)

set_option maxRecDepth 100000 in
set_option maxHeartbeats 2000000 in
theorem with_some (A : List Al.St) (st : Al.St) (g cap : Nat) (w : World) (_hl : A.length ≤ cap) (_hm : cap ≤ 9223372036854775807) (hg : g < w.heap.size)
    (hc : ∀ k (h : k < A.length), w.cell? ⟨g, k * 5, none⟩ = some (.int .i64 (A[k].1 : Nat)) ∧ w.cell? ⟨g, k * 5 + 1, none⟩ = some (.int .u8 (A[k].2.1.toNat : Nat)) ∧ w.cell? ⟨g, k * 5 + 2, none⟩ = some (.int .u8 (A[k].2.2.1.toNat : Nat)) ∧
        w.cell? ⟨g, k * 5 + 3, none⟩ = some (.int .u8 (A[k].2.2.2.1.toNat : Nat)) ∧ w.cell? ⟨g, k * 5 + 4, none⟩ = some (.int .u8 (A[k].2.2.2.2.toNat : Nat)))
    (hs : A.length ≤ 100000) :
    Calls Try.prog 56 #[.slice (some ⟨g, 0, none⟩) A.length cap, .agg (stA st)] w fun e w' => ∃ v, e = .returned v ∧ w'.ownsRow w.heap.size 93 5 v (Al.withP A st).length (flat (Al.withP A st)) ∧ Below w.heap.size w w' := by
  obtain ⟨i0, hi, hz0, hz1, hz2⟩ := info_parts Try.info93
  have hbt := bs_toList
  have HC := hid hc
  have HTX := hid (text_any st)
  obtain ⟨M, hM⟩ : ∃ M, Al.txt st = M := ⟨_, rfl⟩
  rw [hM] at HTX
  have HWP : Hid (Al.withP A st = A.filter (fun a => Al.lt (Al.txt a) M) ++ st :: A.filter (fun a => Al.lt M (Al.txt a))) := by rw [Hid, Al.withP, hM]
  generalize Al.withP A st = AW at *
  clear hc hM
  obtain ⟨sk, sx, sy, so, sf⟩ := st
  simp only [stA] at HTX ⊢
  go_enter Try.func56, Try.ntmps56
  go_wp2_with fail
  refine (HTX.out _).mono ?_
  rintro e w1 ⟨rfl, hbel1⟩
  go_wp2_with fail
  generalize hO : Obj.cells #[Value.int .i64 ↑sk, Value.int .u8 ↑sx.toNat, Value.int .u8 ↑sy.toNat, Value.int .u8 ↑so.toNat, Value.int .u8 ↑sf.toNat] 93 = O at *
  have hnew : (w.alloc O).heap[w.heap.size]? = some (.cells (stA (sk, sx, sy, so, sf)) 93 (0, 0)) := by rw [heap_alloc_new w O, ← hO]; rfl
  have hbw0 : Below w.heap.size w (w.alloc O) := (Below.refl _ _).alloc (Nat.le_refl _) O
  rw [World.size_alloc] at hbel1
  have hb1 : w1.heap[w.heap.size]? = some (.cells (stA (sk, sx, sy, so, sf)) 93 (0, 0)) := by rw [hbel1.block _ (by omega)]; exact hnew
  have hbw1 : Below w.heap.size w w1 := hbw0.trans (hbel1.mono (by omega))
  have hsz1 : w.heap.size + 1 ≤ w1.heap.size := by have := hbel1.size; rwa [World.size_alloc] at this
  have HB1 := hid hb1
  have HBW1 := hid hbw1
  clear hO hnew hbw0 hbel1 hb1 hbw1
  go_loopw [5, 17] (fun v i wr => ∃ k : Nat, k ≤ A.length ∧ i = .int .i64 k ∧ wr.ownsRow (w.heap.size + 1) 93 5 v ((A.take k).filter (fun a => Al.lt (Al.txt a) M)).length (flat ((A.take k).filter (fun a => Al.lt (Al.txt a) M))) ∧ Below (w.heap.size + 1) w1 wr) (fun _ i _ => A.length - (intOf i).toNat)
  case atStart => exact ⟨0, Nat.zero_le _, rfl, World.ownsRow_nil _ _ _ _, Below.refl _ _⟩
  case round =>
    obtain ⟨k, hk, rfl, hown, hbel⟩ := hrel
    have hsz : w.heap.size + 1 ≤ wr.heap.size := Nat.le_trans hsz1 hbel.size
    have hbw := HBW1.out.trans (hbel.mono (Nat.le_succ _))
    have hfl := fil_len (A := A) (p := fun a => Al.lt (Al.txt a) M) (k := k)
    by_cases hlt : k < A.length
    · have HFS := hid (fil_succ (p := fun a => Al.lt (Al.txt a) M) hlt)
      generalize (A.take k).filter (fun a => Al.lt (Al.txt a) M) = L at *
      obtain ⟨c0, c1, c2, c3, c4⟩ := HC.out k hlt
      generalize A[k] = a at *
      have HTA := hid (text_any a)
      obtain ⟨X, hX⟩ : ∃ X, Al.txt a = X := ⟨_, rfl⟩
      rw [hX] at HTA
      have HXE := hid hX
      clear hX
      obtain ⟨ak, ax, ay, ao, af⟩ := a
      simp only [stA] at HTA
      have d0 := (hbw.cell (p := ⟨g, k * 5, none⟩) hg).trans c0
      have d1 := (hbw.cell (p := ⟨g, k * 5 + 1, none⟩) hg).trans c1
      have d2 := (hbw.cell (p := ⟨g, k * 5 + 2, none⟩) hg).trans c2
      have d3 := (hbw.cell (p := ⟨g, k * 5 + 3, none⟩) hg).trans c3
      have d4 := (hbw.cell (p := ⟨g, k * 5 + 4, none⟩) hg).trans c4
      simp only at d0 d1 d2 d3 d4
      clear c0 c1 c2 c3 c4
      go_wp2_with fail
      refine (HTA.out _).mono ?_
      rintro e w2 ⟨rfl, hbel2⟩
      obtain ⟨hown2, hbel3, hsz2, hblk⟩ := round_frame (S := (ak, ax, ay, ao, af)) hown hbel hsz hbel2
      obtain ⟨e0, e1, e2, e3, e4⟩ := st_cells hblk
      clear hown hbel hbel2 hblk d0 d1 d2 d3 d4 hbw
      by_cases hp : Op.bytesLess X M = true
      · have HR : Hid ((A.take (k + 1)).filter (fun a => Al.lt (Al.txt a) M) = L ++ [(ak, ax, ay, ao, af)]) := by rw [Hid, HFS.out, if_pos (by simp only [HXE.out]; exact hp)]
        go_wp2_with (at_builtin; refine append_new (w0 := w1) rfl (.tmp 26) (.tmp 28) 67 rfl (w.heap.size + 1) 93 i0 (.agg (stA (0, 0, 0, 0, 0))) 5 16 Try.underlying67 hi hz0 hz1 hz2 rfl (by decide) _ L.length (flat L) rfl hown2 (stA (ak, ax, ay, ao, af)) rfl (by simp [stA, Value.oneCell']) rfl (by omega) (by decide) hsz2 hbel3 ?_; intro v3 w3 hown3 hbel4)
        go_roundw
        case rel => exact ⟨k + 1, by omega, by go_num, by rw [HR.out, flat_snoc]; simpa using hown3, hbel4⟩
        case measure => simp [intOf]; omega
      · have hpf : Op.bytesLess X M = false := by simpa using hp
        have HR : Hid ((A.take (k + 1)).filter (fun a => Al.lt (Al.txt a) M) = L) := by rw [Hid, HFS.out, if_neg (by simp only [HXE.out]; exact hp)]; simp
        clear hp
        go_wp2_with fail
        go_roundw
        case rel => exact ⟨k + 1, by omega, by go_num, by rw [HR.out]; exact hown2, hbel3⟩
        case measure => simp [intOf]; omega
    · rw [List.take_of_length_le (by omega)] at hown hfl
      generalize A.filter (fun a => Al.lt (Al.txt a) M) = L at *
      have hb2 : wr.heap[w.heap.size]? = some (.cells (stA (sk, sx, sy, so, sf)) 93 (0, 0)) := by rw [hbel.block _ (by omega)]; exact HB1.out
      obtain ⟨e0, e1, e2, e3, e4⟩ := st_cells hb2
      have hLA : L.length ≤ A.length := by omega
      go_wp2_with (at_builtin; refine append_new (w0 := w1) rfl (.tmp 31) (.tmp 33) 67 rfl (w.heap.size + 1) 93 i0 (.agg (stA (0, 0, 0, 0, 0))) 5 16 Try.underlying67 hi hz0 hz1 hz2 rfl (by decide) _ L.length (flat L) rfl hown (stA (sk, sx, sy, so, sf)) rfl (by simp [stA, Value.oneCell']) rfl (by omega) (by decide) hsz hbel ?_; intro v3 w3 hown3 hbel4)
      have hown4 : w3.ownsRow (w.heap.size + 1) 93 5 v3 (L ++ [(sk, sx, sy, so, sf)]).length (flat (L ++ [(sk, sx, sy, so, sf)])) := by rw [flat_snoc]; simpa using hown3
      have hL2 : (L ++ [(sk, sx, sy, so, sf)]).length ≤ A.length + 1 := by simp; omega
      have HW2 : Hid (AW = (L ++ [(sk, sx, sy, so, sf)]) ++ A.filter (fun a => Al.lt M (Al.txt a))) := by rw [Hid, HWP.out]; simp
      generalize L ++ [(sk, sx, sy, so, sf)] = L2 at *
      clear hown hbel hbw hb2 e0 e1 e2 e3 e4 hown3 hfl hLA hsz
      go_loopw [5, 37] (fun v i wr => ∃ k : Nat, k ≤ A.length ∧ i = .int .i64 k ∧ wr.ownsRow (w.heap.size + 1) 93 5 v (L2 ++ (A.take k).filter (fun a => Al.lt M (Al.txt a))).length (flat (L2 ++ (A.take k).filter (fun a => Al.lt M (Al.txt a)))) ∧ Below (w.heap.size + 1) w1 wr) (fun _ i _ => A.length - (intOf i).toNat)
      case atStart => exact ⟨0, Nat.zero_le _, rfl, by simpa using hown4, hbel4⟩
      case round =>
        rename_i k0 _ _
        obtain ⟨k, hk, rfl, hown, hbel⟩ := hrel
        clear hown4 hbel4
        have hsz : w.heap.size + 1 ≤ wr.heap.size := Nat.le_trans hsz1 hbel.size
        have hbw := HBW1.out.trans (hbel.mono (Nat.le_succ _))
        have hfl := fil_len (A := A) (p := fun a => Al.lt M (Al.txt a)) (k := k)
        by_cases hlt : k < A.length
        · have HFS := hid (fil_succ (p := fun a => Al.lt M (Al.txt a)) hlt)
          generalize (A.take k).filter (fun a => Al.lt M (Al.txt a)) = L at *
          obtain ⟨c0, c1, c2, c3, c4⟩ := HC.out k hlt
          generalize A[k] = a at *
          have HTA := hid (text_any a)
          obtain ⟨X, hX⟩ : ∃ X, Al.txt a = X := ⟨_, rfl⟩
          rw [hX] at HTA
          have HXE := hid hX
          clear hX
          obtain ⟨ak, ax, ay, ao, af⟩ := a
          simp only [stA] at HTA
          have d0 := (hbw.cell (p := ⟨g, k * 5, none⟩) hg).trans c0
          have d1 := (hbw.cell (p := ⟨g, k * 5 + 1, none⟩) hg).trans c1
          have d2 := (hbw.cell (p := ⟨g, k * 5 + 2, none⟩) hg).trans c2
          have d3 := (hbw.cell (p := ⟨g, k * 5 + 3, none⟩) hg).trans c3
          have d4 := (hbw.cell (p := ⟨g, k * 5 + 4, none⟩) hg).trans c4
          simp only at d0 d1 d2 d3 d4
          clear c0 c1 c2 c3 c4
          go_wp2_with fail
          refine (HTA.out _).mono ?_
          rintro e w2 ⟨rfl, hbel2⟩
          obtain ⟨hown2, hbel3, hsz2, hblk⟩ := round_frame (S := (ak, ax, ay, ao, af)) hown hbel hsz hbel2
          obtain ⟨e0, e1, e2, e3, e4⟩ := st_cells hblk
          clear hown hbel hbel2 hblk d0 d1 d2 d3 d4 hbw
          have hLs : (L2 ++ L).length ≤ 2 * A.length + 1 := by simp; omega
          by_cases hp : Op.bytesLess M X = true
          · have HR : Hid (L2 ++ (A.take (k + 1)).filter (fun a => Al.lt M (Al.txt a)) = (L2 ++ L) ++ [(ak, ax, ay, ao, af)]) := by rw [Hid, HFS.out, if_pos (by simp only [HXE.out]; exact hp)]; simp
            have hq1 : Op.bytesLess X M = false := Al.lt_asymm hp
            have hq2 : (X == M) = false := by
              rw [beq_eq_false_iff_ne]; intro h; rw [h] at hp; have := Al.lt_irrefl M; rw [show Op.bytesLess M M = Al.lt M M from rfl, this] at hp; cases hp
            generalize L2 ++ L = L3 at *
            clear hp
            go_wp2_with (at_builtin; refine append_new (w0 := w1) rfl (.tmp 46) (.tmp 48) 67 rfl (w.heap.size + 1) 93 i0 (.agg (stA (0, 0, 0, 0, 0))) 5 16 Try.underlying67 hi hz0 hz1 hz2 rfl (by decide) _ L3.length (flat L3) rfl hown2 (stA (ak, ax, ay, ao, af)) rfl (by simp [stA, Value.oneCell']) rfl (by omega) (by decide) hsz2 hbel3 ?_; intro v3 w3 hown3 hbel4)
            go_roundw
            case rel => exact ⟨k + 1, by omega, by go_num, by rw [HR.out, flat_snoc]; simpa using hown3, hbel4⟩
            case measure => simp [intOf]; omega
          · have HR : Hid (L2 ++ (A.take (k + 1)).filter (fun a => Al.lt M (Al.txt a)) = L2 ++ L) := by rw [Hid, HFS.out, if_neg (by simp only [HXE.out]; exact hp)]; simp
            generalize L2 ++ L = L3 at *
            by_cases hXM : X = M
            · subst hXM
              have hirr : Op.bytesLess X X = false := Al.lt_irrefl X
              clear hp
              go_wp2_with fail
              go_roundw
              case rel => exact ⟨k + 1, by omega, by go_num, by rw [HR.out]; exact hown2, hbel3⟩
              case measure => simp [intOf]; omega
            · have hq1 : Op.bytesLess X M = true := Al.lt_total (fun h => hXM h.symm) (by simpa using hp)
              clear hp hXM
              go_wp2_with fail
              go_roundw
              case rel => exact ⟨k + 1, by omega, by go_num, by rw [HR.out]; exact hown2, hbel3⟩
              case measure => simp [intOf]; omega
        · rw [List.take_of_length_le (by omega)] at hown
          go_wp2
          go_ret
          exact ⟨_, rfl, by rw [HW2.out]; exact ownsRow_base hown (Nat.le_succ _), hbw⟩
end Go.Proofs.Ytmjlcajcobbcgab

namespace Go.Proofs.Ytmjlcajcobbcgab
open Go.RowKit

set_option maxRecDepth 100000 in
set_option maxHeartbeats 1000000 in
theorem with_nil (st : Al.St) (w : World) :
    Calls Try.prog 56 #[.slice none 0 0, .agg (stA st)] w fun e w' => ∃ v, e = .returned v ∧ w'.ownsRow w.heap.size 93 5 v 1 (flat [st]) ∧ Below w.heap.size w w' := by
  obtain ⟨i0, hi, hz0, hz1, hz2⟩ := info_parts Try.info93
  have HTX := hid (text_any st)
  obtain ⟨sk, sx, sy, so, sf⟩ := st
  simp only [stA] at HTX ⊢
  go_enter Try.func56, Try.ntmps56
  go_wp2_with fail
  refine (HTX.out _).mono ?_
  rintro e w1 ⟨rfl, hbel1⟩
  generalize hO : Obj.cells #[Value.int .i64 ↑sk, Value.int .u8 ↑sx.toNat, Value.int .u8 ↑sy.toNat, Value.int .u8 ↑so.toNat, Value.int .u8 ↑sf.toNat] 93 = O at *
  have hnew : (w.alloc O).heap[w.heap.size]? = some (.cells (stA (sk, sx, sy, so, sf)) 93 (0, 0)) := by rw [heap_alloc_new w O, ← hO]; rfl
  have hbw0 : Below w.heap.size w (w.alloc O) := (Below.refl _ _).alloc (Nat.le_refl _) O
  rw [World.size_alloc] at hbel1
  have hb1 : w1.heap[w.heap.size]? = some (.cells (stA (sk, sx, sy, so, sf)) 93 (0, 0)) := by rw [hbel1.block _ (by omega)]; exact hnew
  have hbw1 : Below w.heap.size w w1 := hbw0.trans (hbel1.mono (by omega))
  have hsz1 : w.heap.size + 1 ≤ w1.heap.size := by have := hbel1.size; rwa [World.size_alloc] at this
  obtain ⟨e0, e1, e2, e3, e4⟩ := st_cells hb1
  clear hO hnew hbw0 hbel1 hb1
  go_wp2_with fail
  refine wp_loop_rounds 1 ?_
  rw [rounds_succ]
  go_wp2_with (at_builtin; refine append_new (w0 := w) rfl (.tmp 31) (.tmp 33) 67 rfl w.heap.size 93 i0 (.agg (stA (0, 0, 0, 0, 0))) 5 16 Try.underlying67 hi hz0 hz1 hz2 rfl (by decide) _ 0 [] rfl (World.ownsRow_nil _ _ _ _) (stA (sk, sx, sy, so, sf)) rfl (by simp [stA, Value.oneCell']) rfl (by omega) (by decide) (by omega) hbw1 ?_; intro v3 w3 hown3 hbel3)
  refine wp_loop_rounds 1 ?_
  rw [rounds_succ]
  go_wp2_with fail
  go_ret
  exact ⟨_, rfl, by simpa [flat] using hown3, hbel3⟩

theorem with_any (A : List Al.St) (st : Al.St) (v : Value) (w : World) (hr : RdA w v A) (hs : A.length ≤ 100000) :
    Calls Try.prog 56 #[v, .agg (stA st)] w fun e w' => ∃ v, e = .returned v ∧ w'.ownsRow w.heap.size 93 5 v (Al.withP A st).length (flat (Al.withP A st)) ∧ Below w.heap.size w w' := by
  rcases hr.shape with ⟨rfl, rfl⟩ | ⟨g, cap, rfl, hl, hm, hg, hc⟩
  · exact with_nil st w
  · exact with_some A st g cap w hl hm hg hc hs

theorem st_guard : Try.prog.eqGuardType Try.prog.depth 93 = false := by kernel_rfl
theorem st_fields : Try.prog.underlying 93 = some (.struct (Try.prog.fieldsOf 93)) := by kernel_rfl
theorem st_held : Try.prog.stoodInHeld 93 = false := by kernel_rfl
set_option maxRecDepth 100000 in
theorem run_neq_st (k : Nat) (x y o f : UInt8) (k' : Nat) (x' y' o' f' : UInt8) (w : World) :
    (binOp .neq 93 (.agg #[.int .i64 (k : Nat), .int .u8 (x.toNat : Nat), .int .u8 (y.toNat : Nat), .int .u8 (o.toNat : Nat), .int .u8 (f.toNat : Nat)]) (.agg #[.int .i64 (k' : Nat), .int .u8 (x'.toNat : Nat), .int .u8 (y'.toNat : Nat), .int .u8 (o'.toNat : Nat), .int .u8 (f'.toNat : Nat)])).run Try.prog w =
      .ok (.bool (!(((k, x, y, o, f) : Al.St) == (k', x', y', o', f')))) w := by
  rw [run_neq_struct, show (10000 : Nat) = 9999 + 1 from rfl, run_equalIn_agg w 9999 93 _ _ st_fields st_held]
  have u3 := Try.underlying3
  have a3 := Try.isAgg3
  have z3 := Try.sizeOf3
  have u5 := Try.underlying5
  have a5 := Try.isAgg5
  have z5 := Try.sizeOf5
  simp only [Program.fieldsOf, Try.underlying93]
  go_simp
  by_cases he : ((k, x, y, o, f) : Al.St) = (k', x', y', o', f')
  · rw [beq_iff_eq.2 he]
    simp only [Prod.mk.injEq] at he
    obtain ⟨rfl, rfl, rfl, rfl, rfl⟩ := he
    simp
  · rw [beq_eq_false_iff_ne.2 he]
    have key : ¬ (((k : Int) = k') ∧ ((x.toNat : Int) = x'.toNat) ∧ ((y.toNat : Int) = y'.toNat) ∧ ((o.toNat : Int) = o'.toNat) ∧ ((f.toNat : Int) = f'.toNat)) := fun ⟨a, b, c, d, e⟩ => he (by
      rw [show k = k' from by omega, UInt8.toNat_inj.1 (show x.toNat = x'.toNat from by omega), UInt8.toNat_inj.1 (show y.toNat = y'.toNat from by omega), UInt8.toNat_inj.1 (show o.toNat = o'.toNat from by omega), UInt8.toNat_inj.1 (show f.toNat = f'.toNat from by omega)])
    repeat' split
    all_goals first | rfl | exact absurd ⟨‹_›, ‹_›, ‹_›, ‹_›, ‹_›⟩ key
set_option maxRecDepth 100000 in
set_option maxHeartbeats 2000000 in
theorem without_some (A : List Al.St) (st : Al.St) (g cap : Nat) (w : World) (_hl : A.length ≤ cap) (_hm : cap ≤ 9223372036854775807) (hg : g < w.heap.size)
    (hc : ∀ k (h : k < A.length), w.cell? ⟨g, k * 5, none⟩ = some (.int .i64 (A[k].1 : Nat)) ∧ w.cell? ⟨g, k * 5 + 1, none⟩ = some (.int .u8 (A[k].2.1.toNat : Nat)) ∧ w.cell? ⟨g, k * 5 + 2, none⟩ = some (.int .u8 (A[k].2.2.1.toNat : Nat)) ∧
        w.cell? ⟨g, k * 5 + 3, none⟩ = some (.int .u8 (A[k].2.2.2.1.toNat : Nat)) ∧ w.cell? ⟨g, k * 5 + 4, none⟩ = some (.int .u8 (A[k].2.2.2.2.toNat : Nat)))
    (hs : A.length ≤ 100000) :
    Calls Try.prog 57 #[.slice (some ⟨g, 0, none⟩) A.length cap, .agg (stA st)] w fun e w' => ∃ v, e = .returned v ∧ w'.ownsRow w.heap.size 93 5 v (Al.dropP A st).length (flat (Al.dropP A st)) ∧ Below w.heap.size w w' := by
  obtain ⟨i0, hi, hz0, hz1, hz2⟩ := info_parts Try.info93
  have HC := hid hc
  have HWP : Hid (Al.dropP A st = A.filter (fun a => !(a == st))) := rfl
  generalize Al.dropP A st = AW at *
  clear hc
  obtain ⟨S, hS⟩ : ∃ S, st = S := ⟨_, rfl⟩
  have HSE := hid hS
  clear hS
  obtain ⟨sk, sx, sy, so, sf⟩ := st
  simp only [stA]
  go_enter Try.func57, Try.ntmps57
  go_wp2_with fail
  generalize hO : Obj.cells #[Value.int .i64 ↑sk, Value.int .u8 ↑sx.toNat, Value.int .u8 ↑sy.toNat, Value.int .u8 ↑so.toNat, Value.int .u8 ↑sf.toNat] 93 = O at *
  have hb1 : (w.alloc O).heap[w.heap.size]? = some (.cells (stA (sk, sx, sy, so, sf)) 93 (0, 0)) := by rw [heap_alloc_new w O, ← hO]; rfl
  have hbw1 : Below w.heap.size w (w.alloc O) := (Below.refl _ _).alloc (Nat.le_refl _) O
  have hsz1 : w.heap.size + 1 ≤ (w.alloc O).heap.size := by rw [World.size_alloc]; omega
  generalize w.alloc O = w1 at *
  have HB1 := hid hb1
  have HBW1 := hid hbw1
  clear hO hb1 hbw1
  go_loopw [5, 10] (fun v i wr => ∃ k : Nat, k ≤ A.length ∧ i = .int .i64 k ∧ wr.ownsRow (w.heap.size + 1) 93 5 v ((A.take k).filter (fun a => !(a == (sk, sx, sy, so, sf)))).length (flat ((A.take k).filter (fun a => !(a == (sk, sx, sy, so, sf))))) ∧ Below (w.heap.size + 1) w1 wr) (fun _ i _ => A.length - (intOf i).toNat)
  case atStart => exact ⟨0, Nat.zero_le _, rfl, World.ownsRow_nil _ _ _ _, Below.refl _ _⟩
  case round =>
    obtain ⟨k, hk, rfl, hown, hbel⟩ := hrel
    have hsz : w.heap.size + 1 ≤ wr.heap.size := Nat.le_trans hsz1 hbel.size
    have hbw := HBW1.out.trans (hbel.mono (Nat.le_succ _))
    have hfl := fil_len (A := A) (p := fun a => !(a == (sk, sx, sy, so, sf))) (k := k)
    by_cases hlt : k < A.length
    · have HFS := hid (fil_succ (p := fun a => !(a == (sk, sx, sy, so, sf))) hlt)
      generalize (A.take k).filter (fun a => !(a == (sk, sx, sy, so, sf))) = L at *
      obtain ⟨c0, c1, c2, c3, c4⟩ := HC.out k hlt
      generalize A[k] = a at *
      obtain ⟨ak, ax, ay, ao, af⟩ := a
      have hb2 : wr.heap[w.heap.size]? = some (.cells (stA (sk, sx, sy, so, sf)) 93 (0, 0)) := by rw [hbel.block _ (by omega)]; exact HB1.out
      obtain ⟨m0, m1, m2, m3, m4⟩ := st_cells hb2
      have d0 := (hbw.cell (p := ⟨g, k * 5, none⟩) hg).trans c0
      have d1 := (hbw.cell (p := ⟨g, k * 5 + 1, none⟩) hg).trans c1
      have d2 := (hbw.cell (p := ⟨g, k * 5 + 2, none⟩) hg).trans c2
      have d3 := (hbw.cell (p := ⟨g, k * 5 + 3, none⟩) hg).trans c3
      have d4 := (hbw.cell (p := ⟨g, k * 5 + 4, none⟩) hg).trans c4
      simp only at d0 d1 d2 d3 d4
      clear c0 c1 c2 c3 c4 hb2
      have hgu := st_guard
      have hq1 : w.heap.size < wr.heap.size := by omega
      have hnq := run_neq_st ak ax ay ao af sk sx sy so sf
      by_cases hp : ((ak, ax, ay, ao, af) : Al.St) = (sk, sx, sy, so, sf)
      · have hpb : (((ak, ax, ay, ao, af) : Al.St) == (sk, sx, sy, so, sf)) = true := beq_iff_eq.2 hp
        have HR : Hid ((A.take (k + 1)).filter (fun a => !(a == (sk, sx, sy, so, sf))) = L) := by rw [Hid, HFS.out, if_neg (by rw [hpb]; simp)]; simp
        rw [hpb] at hnq
        clear hpb hp
        go_wp2_with fail
        go_roundw
        case rel => exact ⟨k + 1, by omega, by go_num, by rw [HR.out]; exact hown.alloc _, hbel.alloc hsz _⟩
        case measure => simp [intOf]; omega
      · have hpb : (((ak, ax, ay, ao, af) : Al.St) == (sk, sx, sy, so, sf)) = false := beq_eq_false_iff_ne.2 hp
        have HR : Hid ((A.take (k + 1)).filter (fun a => !(a == (sk, sx, sy, so, sf))) = L ++ [(ak, ax, ay, ao, af)]) := by rw [Hid, HFS.out, if_pos (by rw [hpb]; rfl)]
        rw [hpb] at hnq
        clear hpb hp
        have HOWN := hid (fun C C' => (hown.alloc C).alloc C')
        have HBEL := hid (fun C C' => (hbel.alloc hsz C).alloc (by rw [World.size_alloc]; omega) C')
        clear hown hbel hbw
        go_wp2_with (at_builtin; refine append_at (w0 := w1) rfl (.tmp 17) (.tmp 19) 67 rfl (w.heap.size + 1) 93 i0 (.agg (stA (0, 0, 0, 0, 0))) 5 16 Try.underlying67 hi hz0 hz1 hz2 rfl (by decide) _ L.length (flat L) rfl (by exact HOWN.out _ _) (wr.heap.size + 1) (stA (ak, ax, ay, ao, af)) (by exact heap2 wr _ _) rfl (by simp [stA, Value.oneCell']) rfl (by omega) (by decide) (by simp; omega) (by exact HBEL.out _ _) ?_; intro v3 w3 hown3 hbel3)
        go_roundw
        case rel => exact ⟨k + 1, by omega, by go_num, by rw [HR.out, flat_snoc]; simpa using hown3, hbel3⟩
        case measure => simp [intOf]; omega
    · rw [List.take_of_length_le (by omega)] at hown
      go_wp2
      go_ret
      exact ⟨_, rfl, by rw [HWP.out]; exact ownsRow_base hown (Nat.le_succ _), hbw⟩

set_option maxRecDepth 100000 in
set_option maxHeartbeats 1000000 in
theorem without_nil (st : Al.St) (w : World) :
    Calls Try.prog 57 #[.slice none 0 0, .agg (stA st)] w fun e w' => ∃ v, e = .returned v ∧ w'.ownsRow w.heap.size 93 5 v 0 [] ∧ Below w.heap.size w w' := by
  simp only [stA]
  go_enter Try.func57, Try.ntmps57
  go_wp2_with fail
  refine wp_loop_rounds 1 ?_
  rw [rounds_succ]
  go_wp2_with fail
  go_ret
  exact ⟨_, rfl, World.ownsRow_nil _ _ _ _, (Below.refl _ _).alloc (Nat.le_refl _) _⟩
theorem without_any (A : List Al.St) (st : Al.St) (v : Value) (w : World) (hr : RdA w v A) (hs : A.length ≤ 100000) :
    Calls Try.prog 57 #[v, .agg (stA st)] w fun e w' => ∃ v, e = .returned v ∧ w'.ownsRow w.heap.size 93 5 v (Al.dropP A st).length (flat (Al.dropP A st)) ∧ Below w.heap.size w w' := by
  rcases hr.shape with ⟨rfl, rfl⟩ | ⟨g, cap, rfl, hl, hm, hg, hc⟩
  · exact without_nil st w
  · exact without_some A st g cap w hl hm hg hc hs
end Go.Proofs.Ytmjlcajcobbcgab

namespace Go.Proofs.Ytmjlcajcobbcgab
open Go.RowKit

/-- The statement that readSingle answers. -/
def oneSt (l : List UInt8) : Al.St := if (Al.oneP l).1 = 0 then theSt l else (0, 0, 0, 0, 0)

theorem stored_size (w : World) (b k : Nat) (x y o f : UInt8) : (stored w b k x y o f).heap.size = w.heap.size := by simp [stored, World.setCell]
theorem stored_then {w0 w : World} {B b : Nat} {S : Al.St} {k : Nat} {x y o f : UInt8} (h : w.heap[b]? = some (.cells (stA S) 93 (0, 0))) (hb : B ≤ b) (hbel : Below B w0 w) (C : Obj) :
    ((stored w b k x y o f).alloc C).heap[b]? = some (.cells (stA (k, x, y, o, f)) 93 (0, 0)) ∧ Below B w0 ((stored w b k x y o f).alloc C) := by
  have hlt := lt_of_block h
  refine ⟨?_, (stored_below hbel hb).alloc (by rw [stored_size]; omega) C⟩
  rw [Below.heap_alloc _ _ _ (by rw [stored_size]; exact hlt)]
  exact stored_block h

set_option maxRecDepth 100000 in
set_option maxHeartbeats 400000 in
theorem readSingle_any (s : ByteArray) (w : World) (hs : s.size ≤ maxLen) :
    Calls Try.prog 55 #[.string s] w fun e w' => e = .returned (.tuple #[.agg (stA (oneSt s.data.toList)), .int .i64 ((Al.oneP s.data.toList).1 : Nat), .int .i64 ((Al.oneP s.data.toList).2 : Nat)]) ∧ Below w.heap.size w w' := by
  unfold maxLen at hs
  have HSZ : Hid (s.data.toList.length = s.size) := rfl
  have hzb : (w.alloc (.cells (stA (0, 0, 0, 0, 0)) 93)).heap[w.heap.size]? = some (.cells (stA (0, 0, 0, 0, 0)) 93 (0, 0)) := heap_alloc_new w _
  have HZB := hid hzb
  clear hzb
  by_cases h1 : 200 < s.size
  · have HF : Hid (Al.oneP s.data.toList = (1, 0)) := by rw [Hid, Al.oneP, if_pos (by rw [HSZ.out]; omega)]
    have HS : Hid (oneSt s.data.toList = (0, 0, 0, 0, 0)) := by rw [Hid, oneSt, HF.out, if_neg (by simp)]
    go_enter Try.func55, Try.ntmps55
    go_wp2
    exact bodyPost_ret (v := .tuple #[.agg (stA (0, 0, 0, 0, 0)), .int .i64 1, .int .i64 0]) (by simp [results, Try.results55, go_sem, stA]) rfl ⟨by rw [HF.out, HS.out]; rfl, (Below.refl _ _).alloc (Nat.le_refl _) _⟩
  · have hsz : s.size ≤ 1000000 := by omega
    obtain ⟨⟨j, ok⟩, hr⟩ : ∃ x, Al.refStmt s.data.toList 0 = x := ⟨_, rfl⟩
    have HRS := hid (fun wx => readStatement_any s 0 wx (Nat.zero_le _) hsz)
    have hle := Al.refStmt_le s.data.toList 0
    have HRR := hid (Al.read_same s.data.toList 0)
    rw [hr] at HRS hle HRR
    rw [List.drop_zero] at HRS HRR
    simp only at hle
    generalize hRD : rdSt s.data.toList = RD at *
    obtain ⟨rk, rx, ry, ro, rf⟩ := RD
    simp only [stA] at HRS
    cases ok with
    | false =>
      have HF : Hid (Al.oneP s.data.toList = (2, j)) := by rw [Hid, Al.oneP, if_neg (by rw [HSZ.out]; omega), hr, if_pos (.inl rfl)]
      have HS : Hid (oneSt s.data.toList = (0, 0, 0, 0, 0)) := by rw [Hid, oneSt, HF.out, if_neg (by simp)]
      clear hr hRD
      go_enter Try.func55, Try.ntmps55
      go_wp2_with fail
      refine (HRS.out _).mono ?_
      rintro e w1 ⟨rfl, hbel1⟩
      have hb1 : w1.heap[w.heap.size]? = some (.cells (stA (0, 0, 0, 0, 0)) 93 (0, 0)) := by rw [hbel1.block _ (by rw [World.size_alloc]; omega)]; exact HZB.out
      have hq1 : w.heap.size < w1.heap.size := by have := hbel1.size; rw [World.size_alloc] at this; omega
      have hbw : Below w.heap.size w w1 := ((Below.refl _ _).alloc (Nat.le_refl _) _).trans (hbel1.mono (by rw [World.size_alloc]; omega))
      obtain ⟨d0, d1, d2, d3, d4⟩ := zero_cells hb1
      obtain ⟨f0, f1, f2, f3, f4⟩ := st_free hb1
      have HB := hid (fun C => stored_then (k := 0) (x := 0) (y := 0) (o := 0) (f := 0) hb1 (Nat.le_refl _) hbw C)
      clear hb1 hbel1 hbw
      go_wp2_with fail
      rw [stored_zero]
      have HBC := HB.out (Obj.cells #[.int .i64 ↑rk, .int .u8 ↑rx.toNat, .int .u8 ↑ry.toNat, .int .u8 ↑ro.toNat, .int .u8 ↑rf.toNat] 93)
      clear d0 d1 d2 d3 d4 f0 f1 f2 f3 f4 HB
      generalize (stored w1 w.heap.size 0 0 0 0 0).alloc (Obj.cells #[.int .i64 ↑rk, .int .u8 ↑rx.toNat, .int .u8 ↑ry.toNat, .int .u8 ↑ro.toNat, .int .u8 ↑rf.toNat] 93) = W at *
      obtain ⟨hW, hbelW⟩ := HBC
      obtain ⟨c0, c1, c2, c3, c4⟩ := zero_cells hW
      exact bodyPost_ret (v := .tuple #[.agg (stA (0, 0, 0, 0, 0)), .int .i64 2, .int .i64 (j : Nat)]) (by simp [results, Try.results55, go_sem, stA, c0, c1, c2, c3, c4]) rfl ⟨by rw [HF.out, HS.out]; rfl, hbelW⟩
    | true =>
      by_cases h2 : j < s.size
      · have HF : Hid (Al.oneP s.data.toList = (2, j)) := by rw [Hid, Al.oneP, if_neg (by rw [HSZ.out]; omega), hr, if_pos (.inr (by rw [HSZ.out]; exact h2))]
        have HS : Hid (oneSt s.data.toList = (0, 0, 0, 0, 0)) := by rw [Hid, oneSt, HF.out, if_neg (by simp)]
        clear hr hRD
        go_enter Try.func55, Try.ntmps55
        go_wp2_with fail
        refine (HRS.out _).mono ?_
        rintro e w1 ⟨rfl, hbel1⟩
        have hb1 : w1.heap[w.heap.size]? = some (.cells (stA (0, 0, 0, 0, 0)) 93 (0, 0)) := by rw [hbel1.block _ (by rw [World.size_alloc]; omega)]; exact HZB.out
        have hq1 : w.heap.size < w1.heap.size := by have := hbel1.size; rw [World.size_alloc] at this; omega
        have hbw : Below w.heap.size w w1 := ((Below.refl _ _).alloc (Nat.le_refl _) _).trans (hbel1.mono (by rw [World.size_alloc]; omega))
        obtain ⟨d0, d1, d2, d3, d4⟩ := zero_cells hb1
        obtain ⟨f0, f1, f2, f3, f4⟩ := st_free hb1
        have HB := hid (fun C => stored_then (k := 0) (x := 0) (y := 0) (o := 0) (f := 0) hb1 (Nat.le_refl _) hbw C)
        clear hb1 hbel1 hbw
        go_wp2_with fail
        rw [stored_zero]
        have HBC := HB.out (Obj.cells #[.int .i64 ↑rk, .int .u8 ↑rx.toNat, .int .u8 ↑ry.toNat, .int .u8 ↑ro.toNat, .int .u8 ↑rf.toNat] 93)
        clear d0 d1 d2 d3 d4 f0 f1 f2 f3 f4 HB
        generalize (stored w1 w.heap.size 0 0 0 0 0).alloc (Obj.cells #[.int .i64 ↑rk, .int .u8 ↑rx.toNat, .int .u8 ↑ry.toNat, .int .u8 ↑ro.toNat, .int .u8 ↑rf.toNat] 93) = W at *
        obtain ⟨hW, hbelW⟩ := HBC
        obtain ⟨c0, c1, c2, c3, c4⟩ := zero_cells hW
        exact bodyPost_ret (v := .tuple #[.agg (stA (0, 0, 0, 0, 0)), .int .i64 2, .int .i64 (j : Nat)]) (by simp [results, Try.results55, go_sem, stA, c0, c1, c2, c3, c4]) rfl ⟨by rw [HF.out, HS.out]; rfl, hbelW⟩

      · have HF : Hid (Al.oneP s.data.toList = (0, 0)) := by rw [Hid, Al.oneP, if_neg (by rw [HSZ.out]; omega), hr, if_neg (by rw [HSZ.out]; simp; omega)]
        have hk : Al.kindOf s.data.toList < 4 := (Al.one_yes (by rw [HF.out])).1
        have HS : Hid (oneSt s.data.toList = (rk, rx, ry, ro, rf)) := by rw [Hid, oneSt, HF.out, if_pos rfl, ← hRD, rdSt, if_pos hk]; rfl
        clear hr hRD hk
        go_enter Try.func55, Try.ntmps55
        go_wp2_with fail
        refine (HRS.out _).mono ?_
        rintro e w1 ⟨rfl, hbel1⟩
        have hb1 : w1.heap[w.heap.size]? = some (.cells (stA (0, 0, 0, 0, 0)) 93 (0, 0)) := by rw [hbel1.block _ (by rw [World.size_alloc]; omega)]; exact HZB.out
        have hq1 : w.heap.size < w1.heap.size := by have := hbel1.size; rw [World.size_alloc] at this; omega
        have hbw : Below w.heap.size w w1 := ((Below.refl _ _).alloc (Nat.le_refl _) _).trans (hbel1.mono (by rw [World.size_alloc]; omega))
        obtain ⟨d0, d1, d2, d3, d4⟩ := zero_cells hb1
        obtain ⟨f0, f1, f2, f3, f4⟩ := st_free hb1
        have HB := hid (fun C => stored_then (k := rk) (x := rx) (y := ry) (o := ro) (f := rf) hb1 (Nat.le_refl _) hbw C)
        clear hb1 hbel1 hbw
        go_wp2_with fail
        rw [stored_eq]
        have HBC := HB.out (Obj.cells #[.int .i64 ↑rk, .int .u8 ↑rx.toNat, .int .u8 ↑ry.toNat, .int .u8 ↑ro.toNat, .int .u8 ↑rf.toNat] 93)
        clear d0 d1 d2 d3 d4 f0 f1 f2 f3 f4 HB
        generalize (stored w1 w.heap.size rk rx ry ro rf).alloc (Obj.cells #[.int .i64 ↑rk, .int .u8 ↑rx.toNat, .int .u8 ↑ry.toNat, .int .u8 ↑ro.toNat, .int .u8 ↑rf.toNat] 93) = W at *
        obtain ⟨hW, hbelW⟩ := HBC
        obtain ⟨c0, c1, c2, c3, c4⟩ := st_cells hW
        exact bodyPost_ret (v := .tuple #[.agg (stA (rk, rx, ry, ro, rf)), .int .i64 0, .int .i64 0]) (by simp [results, Try.results55, go_sem, stA, c0, c1, c2, c3, c4]) rfl ⟨by rw [HF.out, HS.out]; rfl, hbelW⟩

end Go.Proofs.Ytmjlcajcobbcgab

namespace Go.Proofs.Ytmjlcajcobbcgab
open Go.RowKit

set_option maxRecDepth 100000 in
set_option maxHeartbeats 1000000 in
theorem readProgram_any (s : ByteArray) (w : World) (hs : s.size ≤ 200) :
    Calls Try.prog 54 #[.string s] w fun e w' => ∃ v, e = .returned (.tuple #[v, .int .i64 ((Al.parse s.data.toList s.data.toList.length 0 []).2.1 : Nat), .bool (Al.parse s.data.toList s.data.toList.length 0 []).2.2]) ∧
      w'.ownsRow w.heap.size 93 5 v (Al.parse s.data.toList s.data.toList.length 0 []).1.length (flat (Al.parse s.data.toList s.data.toList.length 0 []).1) ∧ Below w.heap.size w w' := by
  have HSZ : Hid (s.data.toList.length = s.size) := rfl
  obtain ⟨P, hP⟩ : ∃ P, Al.parse s.data.toList s.data.toList.length 0 [] = P := ⟨_, rfl⟩
  rw [hP]
  have HP0 := hid hP
  clear hP
  go_enter Try.func54, Try.ntmps54
  go_wp2
  go_loopw [5, 6] (fun v i wr => ∃ (k n : Nat) (A : List Al.St), k ≤ s.size ∧ i = .int .i64 k ∧ A.length ≤ k ∧ s.size ≤ n + k ∧ Al.parse s.data.toList n k A = P ∧
    wr.ownsRow w.heap.size 93 5 v A.length (flat A) ∧ Below w.heap.size w wr) (fun _ i _ => s.size - (intOf i).toNat)
  case atStart => exact ⟨0, s.size, [], Nat.zero_le _, rfl, Nat.zero_le _, by omega, by rw [← HP0.out, HSZ.out], World.ownsRow_nil _ _ _ _, Below.refl _ _⟩
  case round =>
    obtain ⟨k, n, A, hk, rfl, hlen, hfuel, hpar, hown, hbel⟩ := hrel
    have HP := hid hpar
    clear hpar
    have hsz := hbel.size
    by_cases hlt : k < s.size
    · obtain ⟨n, rfl⟩ : ∃ m, n = m + 1 := ⟨n - 1, by omega⟩
      have HRS := hid (fun wx => readStatement_any s k wx hk (by omega))
      by_cases hkd : Al.kindOf (s.data.toList.drop k) < 4
      · obtain ⟨y1, y2, _, _⟩ := Al.stmt_yes hkd
        have HP2 := HP.out
        rw [Al.parse_good _ _ _ _ (by rw [HSZ.out]; omega) hkd] at HP2
        have hwl := Al.withP_len A (Al.mkSt (Al.kindOf (s.data.toList.drop k)) (s.data.toList.drop k))
        have hsl := Al.shpLen_ge (Al.kindOf (s.data.toList.drop k))
        have hrd : rdSt (s.data.toList.drop k) = Al.mkSt (Al.kindOf (s.data.toList.drop k)) (s.data.toList.drop k) := by rw [rdSt, if_pos hkd]
        rw [HSZ.out] at y2
        rw [y1, hrd] at HRS
        generalize Al.mkSt (Al.kindOf (s.data.toList.drop k)) (s.data.toList.drop k) = st at *
        generalize Al.shpLen (Al.kindOf (s.data.toList.drop k)) = q at *
        have HP3 := hid HP2
        have HWI := hid (fun v wx hr => with_any A st v wx hr (by omega))
        obtain ⟨rk, rx, ry, ro, rf⟩ := st
        simp only [stA] at HRS HWI
        clear hrd HP HP2 hkd y1
        go_wp2_with fail
        refine (HRS.out _).mono ?_
        rintro e w1 ⟨rfl, hbel1⟩
        have hown1 := ownsRow_below hown hbel1
        have hbw1 := hbel.trans (hbel1.mono hsz)
        have hsz1 := hbw1.size
        clear hown hbel hbel1
        go_wp2_with fail
        refine (HWI.out _ _ (ownsRow_zero (hown1.alloc _))).mono ?_
        rintro e w2 ⟨v2, rfl, hown2, hbel2⟩
        rw [World.size_alloc] at hown2 hbel2
        go_wp2_with fail
        go_roundw
        case rel => exact ⟨k + q, n, Al.withP A (rk, rx, ry, ro, rf), y2, by go_num, by omega, by omega, HP3.out, ownsRow_base hown2 (by omega), (hbw1.alloc hsz1 _).trans (hbel2.mono (by omega))⟩
        case measure => simp [intOf]; omega
      · have HPB := HP.out
        rw [Al.parse_bad _ _ _ _ (by rw [HSZ.out]; omega) hkd] at HPB
        have HY := Al.stmt_no hkd
        have hfl := Al.fur_le (s.data.toList.drop k) 4
        rw [HY] at HRS
        generalize Al.fur (s.data.toList.drop k) 4 = q at *
        generalize rdSt (s.data.toList.drop k) = st at *
        obtain ⟨rk, rx, ry, ro, rf⟩ := st
        simp only [stA] at HRS
        have HPC := hid HPB
        clear HY HPB hkd HP
        go_wp2_with fail
        refine (HRS.out _).mono ?_
        rintro e w1 ⟨rfl, hbel1⟩
        have hbw1 := hbel.trans (hbel1.mono hsz)
        have hsz1 := hbw1.size
        clear hown hbel hbel1
        go_wp2_with fail
        go_ret3
        exact ⟨.slice none 0 0, by rw [← HPC.out]; simp, by rw [← HPC.out]; exact World.ownsRow_nil _ _ _ _, hbw1.alloc hsz1 _⟩
    · have HPE := HP.out
      rw [Al.parse_end _ _ _ _ (by rw [HSZ.out]; omega)] at HPE
      have HPF := hid HPE
      clear HPE HP
      go_wp2
      go_ret3
      exact ⟨_, by rw [← HPF.out]; rfl, by rw [← HPF.out]; exact hown, hbel⟩
end Go.Proofs.Ytmjlcajcobbcgab

namespace Go.Proofs.Ytmjlcajcobbcgab
open Go.RowKit

/-- The program's session in memory. -/
structure ASess (w : World) (b : Nat) (A : List Al.St) : Prop where
  ex : ∃ v, w.heap[b]? = some (.cells #[v] 69 (0, 0)) ∧ RdA w v A

theorem ASess.below {w w' : World} {b : Nat} {A : List Al.St} (h : ASess w b A) (hb : Below w.heap.size w w') : ASess w' b A := by
  obtain ⟨v, h1, h2⟩ := h.ex
  exact ⟨v, by rw [hb.block b (lt_of_block h1)]; exact h1, h2.below hb⟩
theorem ASess.set {w w' : World} {b : Nat} {v v' : Value} {A : List Al.St} (h : w.heap[b]? = some (.cells #[v] 69 (0, 0))) (hb : Below w.heap.size w w') (ho : w'.ownsRow w.heap.size 93 5 v' A.length (flat A)) :
    ASess (w'.setCell ⟨b, 0, none⟩ v') b A := by
  have h1 := lt_of_block h
  exact ⟨v', one_setCell (by rw [hb.block b h1]; exact h), ownsRow_zero (ownsRow_setCell_below ho h1 v')⟩

set_option maxHeartbeats 400000 in
theorem aLoad_any (b : Nat) (A : List Al.St) (s : ByteArray) (w : World) (hs : s.size ≤ maxLen) (hS : ASess w b A) :
    Calls Try.prog 25 #[.pointer (some ⟨b, 0, none⟩), .string s] w fun e w' => e = .returned (.tuple #[.int .i64 ((Al.loadP s.data.toList).1 : Nat), .int .i64 ((Al.loadP s.data.toList).2.1 : Nat)]) ∧
      ASess w' b (chLoad s.data.toList A) ∧ w.grownBy w' (some b) := by
  obtain ⟨v, hv, hr⟩ := hS.ex
  unfold maxLen at hs
  have HSZ : Hid (s.data.toList.length = s.size) := rfl
  by_cases h1 : 200 < s.size
  · have HF : Hid (Al.loadP s.data.toList = (1, 0, [])) := by rw [Hid, Al.loadP, if_pos (by rw [HSZ.out]; omega)]
    have HC : Hid (chLoad s.data.toList A = A) := by rw [Hid, chLoad, HF.out, if_neg (by simp)]
    go_enter Try.func25, Try.ntmps25
    go_wp2
    go_ret2
    exact ⟨by rw [HF.out]; rfl, by rw [HC.out]; exact hS, grown_of_below (Below.refl _ _) _⟩
  · have HRP := hid (readProgram_any s w (by omega))
    obtain ⟨⟨A', p, ok⟩, hP⟩ : ∃ P, Al.parse s.data.toList s.data.toList.length 0 [] = P := ⟨_, rfl⟩
    rw [hP] at HRP
    cases ok with
    | false =>
      have HF : Hid (Al.loadP s.data.toList = (2, p, [])) := by rw [Hid, Al.loadP, if_neg (by rw [HSZ.out]; omega), hP, if_pos rfl]
      have HC : Hid (chLoad s.data.toList A = A) := by rw [Hid, chLoad, HF.out, if_neg (by simp)]
      clear hP
      go_enter Try.func25, Try.ntmps25
      go_wp2_with fail
      refine HRP.out.mono ?_
      rintro e w1 ⟨v1, rfl, hown, hbel⟩
      go_wp2_with fail
      go_ret2
      exact ⟨by rw [HF.out]; rfl, by rw [HC.out]; exact hS.below hbel, grown_of_below hbel _⟩
    | true =>
      by_cases hf : 24 < A'.length
      · have HF : Hid (Al.loadP s.data.toList = (3, 0, [])) := by rw [Hid, Al.loadP, if_neg (by rw [HSZ.out]; omega), hP, if_neg (by simp), if_pos hf]
        have HC : Hid (chLoad s.data.toList A = A) := by rw [Hid, chLoad, HF.out, if_neg (by simp)]
        clear hP
        go_enter Try.func25, Try.ntmps25
        go_wp2_with fail
        refine HRP.out.mono ?_
        rintro e w1 ⟨v1, rfl, hown, hbel⟩
        obtain ⟨ao, c1, rfl⟩ := ownsRow_slice hown
        go_wp2_with fail
        go_ret2
        exact ⟨by rw [HF.out]; rfl, by rw [HC.out]; exact hS.below hbel, grown_of_below hbel _⟩
      · have HF : Hid (Al.loadP s.data.toList = (0, 0, A')) := by rw [Hid, Al.loadP, if_neg (by rw [HSZ.out]; omega), hP, if_neg (by simp), if_neg hf]
        have HC : Hid (chLoad s.data.toList A = A') := by rw [Hid, chLoad, HF.out, if_pos rfl]
        clear hP
        go_enter Try.func25, Try.ntmps25
        go_wp2_with fail
        refine HRP.out.mono ?_
        rintro e w1 ⟨v1, rfl, hown, hbel⟩
        obtain ⟨ao, c1, rfl⟩ := ownsRow_slice hown
        have hv1 : w1.heap[b]? = some (.cells #[v] 69 (0, 0)) := by rw [hbel.block b (lt_of_block hv)]; exact hv
        have hc := cell_of_one hv1
        have hfr := free_of_one hv1
        have R1 := hid (And.intro (ASess.set hv hbel hown) (grown_set (b := b) hbel (.slice ao A'.length c1)))
        clear hown hbel hv1
        go_wp2_with fail
        go_ret2
        exact ⟨by rw [HF.out]; rfl, by rw [HC.out]; exact R1.out.1, R1.out.2⟩


set_option maxRecDepth 100000 in
set_option maxHeartbeats 1000000 in
theorem aAdd_any (b : Nat) (A : List Al.St) (s : ByteArray) (w : World) (hs : s.size ≤ maxLen) (hS : ASess w b A) (hl : A.length ≤ 24) :
    Calls Try.prog 26 #[.pointer (some ⟨b, 0, none⟩), .string s] w fun e w' => e = .returned (.tuple #[.int .i64 ((addE s.data.toList A).1 : Nat), .int .i64 ((addE s.data.toList A).2 : Nat)]) ∧
      ASess w' b (chAdd s.data.toList A) ∧ w.grownBy w' (some b) := by
  obtain ⟨v, hv, hr⟩ := hS.ex
  have hlb := lt_of_block hv
  have HONE := hid (readSingle_any s w hs)
  by_cases he : (Al.oneP s.data.toList).1 = 0
  · have hp := Al.one_zero he
    have hst : oneSt s.data.toList = theSt s.data.toList := by rw [oneSt, if_pos he]
    rw [hp, hst] at HONE
    have HWI := hid (fun v wx hr => with_any A (theSt s.data.toList) v wx hr (by omega))
    by_cases hf : 24 < (Al.withP A (theSt s.data.toList)).length
    · have HE : Hid (addE s.data.toList A = (3, 0)) := by rw [Hid, addE, if_pos he, if_pos hf]
      have HC : Hid (chAdd s.data.toList A = A) := by rw [Hid, chAdd, HE.out, if_neg (by simp)]
      generalize Al.withP A (theSt s.data.toList) = A' at *
      generalize theSt s.data.toList = st at *
      obtain ⟨rk, rx, ry, ro, rf⟩ := st
      simp only [stA] at HONE HWI
      clear he hp hst
      go_enter Try.func26, Try.ntmps26
      go_wp2_with fail
      refine HONE.out.mono ?_
      rintro e w1 ⟨rfl, hbel1⟩
      go_wp2_with fail
      have hbw : Below w.heap.size w (w1.alloc (.cells (stA (rk, rx, ry, ro, rf)) 93)) := hbel1.alloc hbel1.size _
      have hblk : (w1.alloc (.cells (stA (rk, rx, ry, ro, rf)) 93)).heap[w1.heap.size]? = some (.cells (stA (rk, rx, ry, ro, rf)) 93 (0, 0)) := heap_alloc_new w1 _
      simp only [stA] at hbw hblk
      generalize w1.alloc (Obj.cells #[.int .i64 ↑rk, .int .u8 ↑rx.toNat, .int .u8 ↑ry.toNat, .int .u8 ↑ro.toNat, .int .u8 ↑rf.toNat] 93) = W1 at *
      generalize w1.heap.size = N at *
      have hvW : W1.heap[b]? = some (.cells #[v] 69 (0, 0)) := by rw [hbw.block b hlb]; exact hv
      have hrW : RdA W1 v A := hr.below hbw
      have hcb := cell_of_one hvW
      obtain ⟨c0, c1, c2, c3, c4⟩ := st_cells (k := rk) (x := rx) (y := ry) (o := ro) (f := rf) hblk
      have hNl := lt_of_block hblk
      have hbl := lt_of_block hvW
      have HBW := hid hbw
      have HVW := hid hvW
      have HRW := hid hrW
      clear hbel1 hblk hbw hvW hrW hr
      go_region_held3 (fun w' => w'.cell? ⟨b, 0, none⟩ = some v ∧ w'.cell? ⟨N, 0, none⟩ = some (.int .i64 ↑rk) ∧ w'.cell? ⟨N, 1, none⟩ = some (.int .u8 ↑rx.toNat) ∧ w'.cell? ⟨N, 2, none⟩ = some (.int .u8 ↑ry.toNat) ∧ w'.cell? ⟨N, 3, none⟩ = some (.int .u8 ↑ro.toNat) ∧ w'.cell? ⟨N, 4, none⟩ = some (.int .u8 ↑rf.toNat)) (go_keep)
        ((go_at_call 56; refine (HWI.out _ _ (by exact HRW.out)).mono ?_; rintro e w2 ⟨v2, rfl, hown2, hbel2⟩; have kb := cell_below hbel2 hcb hbl; have k0 := cell_below hbel2 c0 hNl; have k1 := cell_below hbel2 c1 hNl; have k2 := cell_below hbel2 c2 hNl; have k3 := cell_below hbel2 c3 hNl; have k4 := cell_below hbel2 c4 hNl))
      have hB2 : Below W1.heap.size W1 w2 := ⟨hbel2.os, hbel2.tape, hbel2.output, hbel2.size, hbel2.block⟩
      have hO2 : w2.ownsRow W1.heap.size 93 5 v2 A'.length (flat A') := hown2
      have hBW2 := HBW.out.trans (hB2.mono HBW.out.size)
      have hown3 : w2.ownsRow w.heap.size 93 5 v2 A'.length (flat A') := ownsRow_base hO2 HBW.out.size
      obtain ⟨ao, cc, rfl⟩ := ownsRow_slice hO2
      clear hown2 hbel2 hB2 hO2 kb k0 k1 k2 k3 k4 c0 c1 c2 c3 c4 hcb
      go_wp2_with fail
      go_ret2
      exact ⟨by rw [HE.out]; rfl, by rw [HC.out]; exact hS.below hBW2, grown_of_below hBW2 _⟩
    · have HE : Hid (addE s.data.toList A = (0, 0)) := by rw [Hid, addE, if_pos he, if_neg hf]
      have HC : Hid (chAdd s.data.toList A = Al.withP A (theSt s.data.toList)) := by rw [Hid, chAdd, HE.out, if_pos rfl]
      generalize Al.withP A (theSt s.data.toList) = A' at *
      generalize theSt s.data.toList = st at *
      obtain ⟨rk, rx, ry, ro, rf⟩ := st
      simp only [stA] at HONE HWI
      clear he hp hst
      go_enter Try.func26, Try.ntmps26
      go_wp2_with fail
      refine HONE.out.mono ?_
      rintro e w1 ⟨rfl, hbel1⟩
      go_wp2_with fail
      have hbw : Below w.heap.size w (w1.alloc (.cells (stA (rk, rx, ry, ro, rf)) 93)) := hbel1.alloc hbel1.size _
      have hblk : (w1.alloc (.cells (stA (rk, rx, ry, ro, rf)) 93)).heap[w1.heap.size]? = some (.cells (stA (rk, rx, ry, ro, rf)) 93 (0, 0)) := heap_alloc_new w1 _
      simp only [stA] at hbw hblk
      generalize w1.alloc (Obj.cells #[.int .i64 ↑rk, .int .u8 ↑rx.toNat, .int .u8 ↑ry.toNat, .int .u8 ↑ro.toNat, .int .u8 ↑rf.toNat] 93) = W1 at *
      generalize w1.heap.size = N at *
      have hvW : W1.heap[b]? = some (.cells #[v] 69 (0, 0)) := by rw [hbw.block b hlb]; exact hv
      have hrW : RdA W1 v A := hr.below hbw
      have hcb := cell_of_one hvW
      obtain ⟨c0, c1, c2, c3, c4⟩ := st_cells (k := rk) (x := rx) (y := ry) (o := ro) (f := rf) hblk
      have hNl := lt_of_block hblk
      have hbl := lt_of_block hvW
      have HBW := hid hbw
      have HVW := hid hvW
      have HRW := hid hrW
      clear hbel1 hblk hbw hvW hrW hr
      go_region_held3 (fun w' => w'.cell? ⟨b, 0, none⟩ = some v ∧ w'.cell? ⟨N, 0, none⟩ = some (.int .i64 ↑rk) ∧ w'.cell? ⟨N, 1, none⟩ = some (.int .u8 ↑rx.toNat) ∧ w'.cell? ⟨N, 2, none⟩ = some (.int .u8 ↑ry.toNat) ∧ w'.cell? ⟨N, 3, none⟩ = some (.int .u8 ↑ro.toNat) ∧ w'.cell? ⟨N, 4, none⟩ = some (.int .u8 ↑rf.toNat)) (go_keep)
        ((go_at_call 56; refine (HWI.out _ _ (by exact HRW.out)).mono ?_; rintro e w2 ⟨v2, rfl, hown2, hbel2⟩; have kb := cell_below hbel2 hcb hbl; have k0 := cell_below hbel2 c0 hNl; have k1 := cell_below hbel2 c1 hNl; have k2 := cell_below hbel2 c2 hNl; have k3 := cell_below hbel2 c3 hNl; have k4 := cell_below hbel2 c4 hNl))
      have hB2 : Below W1.heap.size W1 w2 := ⟨hbel2.os, hbel2.tape, hbel2.output, hbel2.size, hbel2.block⟩
      have hO2 : w2.ownsRow W1.heap.size 93 5 v2 A'.length (flat A') := hown2
      have hBW2 := HBW.out.trans (hB2.mono HBW.out.size)
      have hown3 : w2.ownsRow w.heap.size 93 5 v2 A'.length (flat A') := ownsRow_base hO2 HBW.out.size
      obtain ⟨ao, cc, rfl⟩ := ownsRow_slice hO2
      clear hown2 hbel2 hB2 hO2 kb k0 k1 k2 k3 k4 c0 c1 c2 c3 c4 hcb
      have hv2 : w2.heap[b]? = some (.cells #[v] 69 (0, 0)) := by rw [hBW2.block b hlb]; exact hv
      have hc2 := cell_of_one hv2
      have hf2 := free_of_one hv2
      have R1 := hid (And.intro (ASess.set hv hBW2 hown3) (grown_set (b := b) hBW2 (.slice ao A'.length cc)))
      clear hv2 hBW2 hown3
      go_wp2_with fail
      go_ret2
      exact ⟨by rw [HE.out]; rfl, by rw [HC.out]; exact R1.out.1, R1.out.2⟩
  · have HE : Hid (addE s.data.toList A = Al.oneP s.data.toList) := by rw [Hid, addE, if_neg he]
    have HC : Hid (chAdd s.data.toList A = A) := by rw [Hid, chAdd, HE.out, if_neg he]
    generalize Al.oneP s.data.toList = r at *
    obtain ⟨er, pl⟩ := r
    simp only at he
    have hb : ((er : Int) != 0) = true := by simpa using he
    generalize oneSt s.data.toList = st at *
    obtain ⟨rk, rx, ry, ro, rf⟩ := st
    simp only [stA] at HONE
    go_enter Try.func26, Try.ntmps26
    go_wp2_with fail
    refine HONE.out.mono ?_
    rintro e w1 ⟨rfl, hbel1⟩
    go_wp2_with fail
    go_ret2
    exact ⟨by rw [HE.out]; rfl, by rw [HC.out]; exact hS.below (hbel1.alloc hbel1.size _), grown_of_below (hbel1.alloc hbel1.size _) _⟩

set_option maxRecDepth 100000 in
set_option maxHeartbeats 1000000 in
theorem aDrop_any (b : Nat) (A : List Al.St) (s : ByteArray) (w : World) (hs : s.size ≤ maxLen) (hS : ASess w b A) (hA : Al.Good A) (hl : A.length ≤ 24) :
    Calls Try.prog 27 #[.pointer (some ⟨b, 0, none⟩), .string s] w fun e w' => e = .returned (.tuple #[.int .i64 ((dropE s.data.toList A).1 : Nat), .int .i64 ((dropE s.data.toList A).2 : Nat)]) ∧
      ASess w' b (chDrop s.data.toList A) ∧ w.grownBy w' (some b) := by
  obtain ⟨v, hv, hr⟩ := hS.ex
  have hlb := lt_of_block hv
  have HONE := hid (readSingle_any s w hs)
  by_cases he : (Al.oneP s.data.toList).1 = 0
  · have hp := Al.one_zero he
    have hwf : Al.Wf (theSt s.data.toList) := (Al.one_yes he).2.1
    have hdl := Al.dropP_len hA.1 hwf
    have hdle := Al.dropP_le A (theSt s.data.toList)
    have hst : oneSt s.data.toList = theSt s.data.toList := by rw [oneSt, if_pos he]
    rw [hp, hst] at HONE
    have HWI := hid (fun v wx hr => without_any A (theSt s.data.toList) v wx hr (by omega))
    obtain ⟨vo, vc, rfl⟩ := ownsRow_slice hr
    by_cases hf : (Al.dropP A (theSt s.data.toList)).length = A.length
    · have HE : Hid (dropE s.data.toList A = (4, 0)) := by rw [Hid, dropE, if_pos he, if_pos (hdl.1 hf)]
      have HC : Hid (chDrop s.data.toList A = A) := by rw [Hid, chDrop, HE.out, if_neg (by simp)]
      clear hdl hwf hdle
      generalize Al.dropP A (theSt s.data.toList) = A' at *
      generalize theSt s.data.toList = st at *
      obtain ⟨rk, rx, ry, ro, rf⟩ := st
      simp only [stA] at HONE HWI
      clear he hp hst
      go_enter Try.func27, Try.ntmps27
      go_wp2_with fail
      refine HONE.out.mono ?_
      rintro e w1 ⟨rfl, hbel1⟩
      go_wp2_with fail
      have hbw : Below w.heap.size w (w1.alloc (.cells (stA (rk, rx, ry, ro, rf)) 93)) := hbel1.alloc hbel1.size _
      have hblk : (w1.alloc (.cells (stA (rk, rx, ry, ro, rf)) 93)).heap[w1.heap.size]? = some (.cells (stA (rk, rx, ry, ro, rf)) 93 (0, 0)) := heap_alloc_new w1 _
      simp only [stA] at hbw hblk
      generalize w1.alloc (Obj.cells #[.int .i64 ↑rk, .int .u8 ↑rx.toNat, .int .u8 ↑ry.toNat, .int .u8 ↑ro.toNat, .int .u8 ↑rf.toNat] 93) = W1 at *
      generalize w1.heap.size = N at *
      have hvW : W1.heap[b]? = some (.cells #[.slice vo A.length vc] 69 (0, 0)) := by rw [hbw.block b hlb]; exact hv
      have hrW : RdA W1 (.slice vo A.length vc) A := hr.below hbw
      have hcb := cell_of_one hvW
      obtain ⟨c0, c1, c2, c3, c4⟩ := st_cells (k := rk) (x := rx) (y := ry) (o := ro) (f := rf) hblk
      have hNl := lt_of_block hblk
      have hbl := lt_of_block hvW
      have HBW := hid hbw
      have HVW := hid hvW
      have HRW := hid hrW
      clear hbel1 hblk hbw hvW hrW hr
      go_region_held3 (fun w' => w'.cell? ⟨b, 0, none⟩ = some (.slice vo A.length vc) ∧ w'.cell? ⟨N, 0, none⟩ = some (.int .i64 ↑rk) ∧ w'.cell? ⟨N, 1, none⟩ = some (.int .u8 ↑rx.toNat) ∧ w'.cell? ⟨N, 2, none⟩ = some (.int .u8 ↑ry.toNat) ∧ w'.cell? ⟨N, 3, none⟩ = some (.int .u8 ↑ro.toNat) ∧ w'.cell? ⟨N, 4, none⟩ = some (.int .u8 ↑rf.toNat)) (go_keep)
        ((go_at_call 57; refine (HWI.out _ _ (by exact HRW.out)).mono ?_; rintro e w2 ⟨v2, rfl, hown2, hbel2⟩; have kb := cell_below hbel2 hcb hbl; have k0 := cell_below hbel2 c0 hNl; have k1 := cell_below hbel2 c1 hNl; have k2 := cell_below hbel2 c2 hNl; have k3 := cell_below hbel2 c3 hNl; have k4 := cell_below hbel2 c4 hNl))
      have hB2 : Below W1.heap.size W1 w2 := ⟨hbel2.os, hbel2.tape, hbel2.output, hbel2.size, hbel2.block⟩
      have hO2 : w2.ownsRow W1.heap.size 93 5 v2 A'.length (flat A') := hown2
      have hBW2 := HBW.out.trans (hB2.mono HBW.out.size)
      have hown3 : w2.ownsRow w.heap.size 93 5 v2 A'.length (flat A') := ownsRow_base hO2 HBW.out.size
      obtain ⟨ao, cc, rfl⟩ := ownsRow_slice hO2
      clear hown2 hbel2 hB2 hO2 k0 k1 k2 k3 k4 c0 c1 c2 c3 c4
      have hlen : ((A'.length : Int) == (A.length : Int)) = true := by simp [hf]
      have HFL := hid hf
      clear hf hcb
      go_wp2_with fail
      go_ret2
      exact ⟨by rw [HE.out]; rfl, by rw [HC.out]; exact hS.below hBW2, grown_of_below hBW2 _⟩
    · have HE : Hid (dropE s.data.toList A = (0, 0)) := by rw [Hid, dropE, if_pos he, if_neg (fun h => hf (hdl.2 h))]
      have HC : Hid (chDrop s.data.toList A = Al.dropP A (theSt s.data.toList)) := by rw [Hid, chDrop, HE.out, if_pos rfl]
      clear hdl hwf
      generalize Al.dropP A (theSt s.data.toList) = A' at *
      generalize theSt s.data.toList = st at *
      obtain ⟨rk, rx, ry, ro, rf⟩ := st
      simp only [stA] at HONE HWI
      clear he hp hst
      go_enter Try.func27, Try.ntmps27
      go_wp2_with fail
      refine HONE.out.mono ?_
      rintro e w1 ⟨rfl, hbel1⟩
      go_wp2_with fail
      have hbw : Below w.heap.size w (w1.alloc (.cells (stA (rk, rx, ry, ro, rf)) 93)) := hbel1.alloc hbel1.size _
      have hblk : (w1.alloc (.cells (stA (rk, rx, ry, ro, rf)) 93)).heap[w1.heap.size]? = some (.cells (stA (rk, rx, ry, ro, rf)) 93 (0, 0)) := heap_alloc_new w1 _
      simp only [stA] at hbw hblk
      generalize w1.alloc (Obj.cells #[.int .i64 ↑rk, .int .u8 ↑rx.toNat, .int .u8 ↑ry.toNat, .int .u8 ↑ro.toNat, .int .u8 ↑rf.toNat] 93) = W1 at *
      generalize w1.heap.size = N at *
      have hvW : W1.heap[b]? = some (.cells #[.slice vo A.length vc] 69 (0, 0)) := by rw [hbw.block b hlb]; exact hv
      have hrW : RdA W1 (.slice vo A.length vc) A := hr.below hbw
      have hcb := cell_of_one hvW
      obtain ⟨c0, c1, c2, c3, c4⟩ := st_cells (k := rk) (x := rx) (y := ry) (o := ro) (f := rf) hblk
      have hNl := lt_of_block hblk
      have hbl := lt_of_block hvW
      have HBW := hid hbw
      have HVW := hid hvW
      have HRW := hid hrW
      clear hbel1 hblk hbw hvW hrW hr
      go_region_held3 (fun w' => w'.cell? ⟨b, 0, none⟩ = some (.slice vo A.length vc) ∧ w'.cell? ⟨N, 0, none⟩ = some (.int .i64 ↑rk) ∧ w'.cell? ⟨N, 1, none⟩ = some (.int .u8 ↑rx.toNat) ∧ w'.cell? ⟨N, 2, none⟩ = some (.int .u8 ↑ry.toNat) ∧ w'.cell? ⟨N, 3, none⟩ = some (.int .u8 ↑ro.toNat) ∧ w'.cell? ⟨N, 4, none⟩ = some (.int .u8 ↑rf.toNat)) (go_keep)
        ((go_at_call 57; refine (HWI.out _ _ (by exact HRW.out)).mono ?_; rintro e w2 ⟨v2, rfl, hown2, hbel2⟩; have kb := cell_below hbel2 hcb hbl; have k0 := cell_below hbel2 c0 hNl; have k1 := cell_below hbel2 c1 hNl; have k2 := cell_below hbel2 c2 hNl; have k3 := cell_below hbel2 c3 hNl; have k4 := cell_below hbel2 c4 hNl))
      have hB2 : Below W1.heap.size W1 w2 := ⟨hbel2.os, hbel2.tape, hbel2.output, hbel2.size, hbel2.block⟩
      have hO2 : w2.ownsRow W1.heap.size 93 5 v2 A'.length (flat A') := hown2
      have hBW2 := HBW.out.trans (hB2.mono HBW.out.size)
      have hown3 : w2.ownsRow w.heap.size 93 5 v2 A'.length (flat A') := ownsRow_base hO2 HBW.out.size
      obtain ⟨ao, cc, rfl⟩ := ownsRow_slice hO2
      clear hown2 hbel2 hB2 hO2 k0 k1 k2 k3 k4 c0 c1 c2 c3 c4
      have hlen : ((A'.length : Int) == (A.length : Int)) = false := beq_eq_false_iff_ne.2 (by omega)
      clear hf hcb
      have hv2 : w2.heap[b]? = some (.cells #[.slice vo A.length vc] 69 (0, 0)) := by rw [hBW2.block b hlb]; exact hv
      have hc2 := cell_of_one hv2
      have hf2 := free_of_one hv2
      have R1 := hid (And.intro (ASess.set hv hBW2 hown3) (grown_set (b := b) hBW2 (.slice ao A'.length cc)))
      clear hv2 hBW2 hown3
      go_wp2_with fail
      go_ret2
      exact ⟨by rw [HE.out]; rfl, by rw [HC.out]; exact R1.out.1, R1.out.2⟩
  · have HE : Hid (dropE s.data.toList A = Al.oneP s.data.toList) := by rw [Hid, dropE, if_neg he]
    have HC : Hid (chDrop s.data.toList A = A) := by rw [Hid, chDrop, HE.out, if_neg he]
    generalize Al.oneP s.data.toList = r at *
    obtain ⟨er, pl⟩ := r
    simp only at he
    have hb : ((er : Int) != 0) = true := by simpa using he
    generalize oneSt s.data.toList = st at *
    obtain ⟨rk, rx, ry, ro, rf⟩ := st
    simp only [stA] at HONE
    go_enter Try.func27, Try.ntmps27
    go_wp2_with fail
    refine HONE.out.mono ?_
    rintro e w1 ⟨rfl, hbel1⟩
    go_wp2_with fail
    go_ret2
    exact ⟨by rw [HE.out]; rfl, by rw [HC.out]; exact hS.below (hbel1.alloc hbel1.size _), grown_of_below (hbel1.alloc hbel1.size _) _⟩
end Go.Proofs.Ytmjlcajcobbcgab
