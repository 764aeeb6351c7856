import Derived.Test.YtljafkdaljkanaaProgD
namespace Go.Proofs.Ytljafkdaljkanaa
open Go.RowKit

def flat (A : List Al.St) : List Value := A.flatMap (fun s => (stA s).toList)
theorem flat_snoc (A : List Al.St) (s : Al.St) : flat (A ++ [s]) = flat A ++ (stA s).toList := by simp [flat]
theorem flat_append (A B : List Al.St) : flat (A ++ B) = flat A ++ flat B := by simp [flat]
theorem flat_len (A : List Al.St) : (flat A).length = A.length * 5 := by
  induction A with
  | nil => rfl
  | cons a A ih =>
    have h5 : (stA a).toList.length = 5 := rfl
    simp only [flat, List.flatMap_cons, List.length_append, List.length_cons] at ih ⊢
    rw [ih, h5]; omega
theorem flat_get : ∀ (A : List Al.St) (k j : Nat) (h : k < A.length), j < 5 → (flat A)[k * 5 + j]? = (stA A[k])[j]?
  | [], _, _, h, _ => by simp at h
  | a :: A, 0, j, _, hj => by
    have h5 : (stA a).toList.length = 5 := rfl
    simp only [flat, List.flatMap_cons, Nat.zero_mul, Nat.zero_add, List.getElem_cons_zero]
    rw [List.getElem?_append_left (by omega)]
    simp
  | a :: A, k + 1, j, h, hj => by
    have h5 : (stA a).toList.length = 5 := rfl
    have := flat_get A k j (by simpa using h) hj
    simp only [flat, List.flatMap_cons, List.getElem_cons_succ] at this ⊢
    rw [List.getElem?_append_right (by omega), h5, ← this]
    congr 1; omega

/-- The slice v reads as the list A of statements. -/
def RdA (w : World) (v : Value) (A : List Al.St) : Prop := w.ownsRow 0 72 5 v A.length (flat A)

theorem RdA.shape {w : World} {v : Value} {A : List Al.St} (h : RdA w v A) :
    (v = .slice none 0 0 ∧ A = []) ∨ ∃ g cap, v = .slice (some ⟨g, 0, none⟩) A.length cap ∧ A.length ≤ cap ∧ cap ≤ 9223372036854775807 ∧ g < w.heap.size ∧
      ∀ k (h : k < A.length), w.cell? ⟨g, k * 5, none⟩ = some (.int .i64 (A[k].1 : Nat)) ∧ w.cell? ⟨g, k * 5 + 1, none⟩ = some (.int .u8 (A[k].2.1.toNat : Nat)) ∧ w.cell? ⟨g, k * 5 + 2, none⟩ = some (.int .u8 (A[k].2.2.1.toNat : Nat)) ∧
        w.cell? ⟨g, k * 5 + 3, none⟩ = some (.int .u8 (A[k].2.2.2.1.toNat : Nat)) ∧ w.cell? ⟨g, k * 5 + 4, none⟩ = some (.int .u8 (A[k].2.2.2.2.toNat : Nat)) := by
  rcases h.2 with ⟨rfl, hn⟩ | ⟨g, cap, cur, rfl, _, hg, hl, hm, hsz, htk⟩
  · exact .inl ⟨rfl, List.eq_nil_of_length_eq_zero hn⟩
  · refine .inr ⟨g, cap, rfl, hl, hm, (Array.getElem?_eq_some_iff.1 hg).1, fun k hk => ?_⟩
    have key : ∀ j, j < 5 → ∀ u, (stA A[k])[j]? = some u → w.cell? ⟨g, k * 5 + j, none⟩ = some u := fun j hj u hu => by
      have := h.cells (g := g) rfl (k * 5 + j) u (by rw [flat_get A k j hk hj]; exact hu)
      have hadd : (⟨g, 0, none⟩ : Addr).add (k * 5 + j) = ⟨g, k * 5 + j, none⟩ := by unfold Addr.add; split <;> simp_all
      rwa [hadd] at this
    exact ⟨key 0 (by omega) _ rfl, key 1 (by omega) _ rfl, key 2 (by omega) _ rfl, key 3 (by omega) _ rfl, key 4 (by omega) _ rfl⟩

theorem RdA.below {w w' : World} {v : Value} {A : List Al.St} (h : RdA w v A) (hb : Below w.heap.size w w') : RdA w' v A := by
  refine ⟨h.1, ?_⟩
  rcases h.2 with hn | ⟨g, cap, cur, rfl, hg0, hg, rest⟩
  · exact .inl hn
  · exact .inr ⟨g, cap, cur, rfl, hg0, by rw [hb.block g (Array.getElem?_eq_some_iff.1 hg).1]; exact hg, rest⟩

theorem ownsRow_below {w w' : World} {base : Nat} {e : TypeId} {size : Nat} {v : Value} {n : Nat} {xs : List Value} (h : w.ownsRow base e size v n xs) (hb : Below w.heap.size w w') : w'.ownsRow base e size v n xs := by
  refine ⟨h.1, ?_⟩
  rcases h.2 with hn | ⟨g, cap, cur, rfl, hg0, hg, rest⟩
  · exact .inl hn
  · exact .inr ⟨g, cap, cur, rfl, hg0, by rw [hb.block g (Array.getElem?_eq_some_iff.1 hg).1]; exact hg, rest⟩
/-- A round's new block, and a call behind it that leaves it alone. -/
theorem round_frame {w1 wr w2 : World} {B : Nat} {S : Al.St} {v : Value} {n : Nat} {xs : List Value} (hown : wr.ownsRow B 72 5 v n xs) (hbel : Below B w1 wr) (hsz : B ≤ wr.heap.size)
    (hbel2 : Below (wr.alloc (.cells (stA S) 72)).heap.size (wr.alloc (.cells (stA S) 72)) w2) :
    w2.ownsRow B 72 5 v n xs ∧ Below B w1 w2 ∧ B ≤ w2.heap.size ∧ w2.heap[wr.heap.size]? = some (.cells (stA S) 72 (0, 0)) := by
  have h1 := hbel2.size
  rw [World.size_alloc] at h1
  refine ⟨ownsRow_below (hown.alloc _) hbel2, (hbel.alloc hsz _).trans (hbel2.mono (by rw [World.size_alloc]; omega)), by omega, ?_⟩
  rw [hbel2.block _ (by rw [World.size_alloc]; omega)]
  exact heap_alloc_new wr _

theorem Try.info72 : (Try.prog.info? 72).map (fun i => (i.zero, i.size, i.bytes)) = some (some (.agg (stA (0, 0, 0, 0, 0))), 5, 16) := by kernel_rfl

theorem fil_succ {A : List Al.St} {p : Al.St → Bool} {k : Nat} (h : k < A.length) : (A.take (k + 1)).filter p = (A.take k).filter p ++ (if p A[k] = true then [A[k]] else []) := by
  rw [List.take_succ_eq_append_getElem h, List.filter_append]
  by_cases e : p A[k] = true
  · simp [e]
  · simp [e]
theorem fil_len {A : List Al.St} {p : Al.St → Bool} {k : Nat} : ((A.take k).filter p).length ≤ k := Nat.le_trans (List.length_filter_le _ _) (List.length_take_le _ _)

set_option maxRecDepth 100000 in
set_option maxHeartbeats 2000000 in
theorem with_some (A : List Al.St) (st : Al.St) (g cap : Nat) (w : World) (_hl : A.length ≤ cap) (_hm : cap ≤ 9223372036854775807) (hg : g < w.heap.size)
    (hc : ∀ k (h : k < A.length), w.cell? ⟨g, k * 5, none⟩ = some (.int .i64 (A[k].1 : Nat)) ∧ w.cell? ⟨g, k * 5 + 1, none⟩ = some (.int .u8 (A[k].2.1.toNat : Nat)) ∧ w.cell? ⟨g, k * 5 + 2, none⟩ = some (.int .u8 (A[k].2.2.1.toNat : Nat)) ∧
        w.cell? ⟨g, k * 5 + 3, none⟩ = some (.int .u8 (A[k].2.2.2.1.toNat : Nat)) ∧ w.cell? ⟨g, k * 5 + 4, none⟩ = some (.int .u8 (A[k].2.2.2.2.toNat : Nat)))
    (hs : A.length ≤ 100000) :
    Calls Try.prog 61 #[.slice (some ⟨g, 0, none⟩) A.length cap, .agg (stA st)] w fun e w' => ∃ v, e = .returned v ∧ w'.ownsRow w.heap.size 72 5 v (Al.withP A st).length (flat (Al.withP A st)) ∧ Below w.heap.size w w' := by
  obtain ⟨i0, hi, hz0, hz1, hz2⟩ := info_parts Try.info72
  have hbt := bs_toList
  have HC := hid hc
  have HTX := hid (text_any st)
  obtain ⟨M, hM⟩ : ∃ M, Al.txt st = M := ⟨_, rfl⟩
  rw [hM] at HTX
  have HWP : Hid (Al.withP A st = A.filter (fun a => Al.lt (Al.txt a) M) ++ st :: A.filter (fun a => Al.lt M (Al.txt a))) := by rw [Hid, Al.withP, hM]
  generalize Al.withP A st = AW at *
  clear hc hM
  obtain ⟨sk, sx, sy, so, sf⟩ := st
  simp only [stA] at HTX ⊢
  go_enter Try.func61, Try.ntmps61
  go_wp2_with fail
  refine (HTX.out _).mono ?_
  rintro e w1 ⟨rfl, hbel1⟩
  go_wp2_with fail
  generalize hO : Obj.cells #[Value.int .i64 ↑sk, Value.int .u8 ↑sx.toNat, Value.int .u8 ↑sy.toNat, Value.int .u8 ↑so.toNat, Value.int .u8 ↑sf.toNat] 72 = O at *
  have hnew : (w.alloc O).heap[w.heap.size]? = some (.cells (stA (sk, sx, sy, so, sf)) 72 (0, 0)) := by rw [heap_alloc_new w O, ← hO]; rfl
  have hbw0 : Below w.heap.size w (w.alloc O) := (Below.refl _ _).alloc (Nat.le_refl _) O
  rw [World.size_alloc] at hbel1
  have hb1 : w1.heap[w.heap.size]? = some (.cells (stA (sk, sx, sy, so, sf)) 72 (0, 0)) := by rw [hbel1.block _ (by omega)]; exact hnew
  have hbw1 : Below w.heap.size w w1 := hbw0.trans (hbel1.mono (by omega))
  have hsz1 : w.heap.size + 1 ≤ w1.heap.size := by have := hbel1.size; rwa [World.size_alloc] at this
  have HB1 := hid hb1
  have HBW1 := hid hbw1
  clear hO hnew hbw0 hbel1 hb1 hbw1
  go_loopw [5, 17] (fun v i wr => ∃ k : Nat, k ≤ A.length ∧ i = .int .i64 k ∧ wr.ownsRow (w.heap.size + 1) 72 5 v ((A.take k).filter (fun a => Al.lt (Al.txt a) M)).length (flat ((A.take k).filter (fun a => Al.lt (Al.txt a) M))) ∧ Below (w.heap.size + 1) w1 wr) (fun _ i _ => A.length - (intOf i).toNat)
  case atStart => exact ⟨0, Nat.zero_le _, rfl, World.ownsRow_nil _ _ _ _, Below.refl _ _⟩
  case round =>
    obtain ⟨k, hk, rfl, hown, hbel⟩ := hrel
    have hsz : w.heap.size + 1 ≤ wr.heap.size := Nat.le_trans hsz1 hbel.size
    have hbw := HBW1.out.trans (hbel.mono (Nat.le_succ _))
    have hfl := fil_len (A := A) (p := fun a => Al.lt (Al.txt a) M) (k := k)
    by_cases hlt : k < A.length
    · have HFS := hid (fil_succ (p := fun a => Al.lt (Al.txt a) M) hlt)
      generalize (A.take k).filter (fun a => Al.lt (Al.txt a) M) = L at *
      obtain ⟨c0, c1, c2, c3, c4⟩ := HC.out k hlt
      generalize A[k] = a at *
      have HTA := hid (text_any a)
      obtain ⟨X, hX⟩ : ∃ X, Al.txt a = X := ⟨_, rfl⟩
      rw [hX] at HTA
      have HXE := hid hX
      clear hX
      obtain ⟨ak, ax, ay, ao, af⟩ := a
      simp only [stA] at HTA
      have d0 := (hbw.cell (p := ⟨g, k * 5, none⟩) hg).trans c0
      have d1 := (hbw.cell (p := ⟨g, k * 5 + 1, none⟩) hg).trans c1
      have d2 := (hbw.cell (p := ⟨g, k * 5 + 2, none⟩) hg).trans c2
      have d3 := (hbw.cell (p := ⟨g, k * 5 + 3, none⟩) hg).trans c3
      have d4 := (hbw.cell (p := ⟨g, k * 5 + 4, none⟩) hg).trans c4
      simp only at d0 d1 d2 d3 d4
      clear c0 c1 c2 c3 c4
      go_wp2_with fail
      refine (HTA.out _).mono ?_
      rintro e w2 ⟨rfl, hbel2⟩
      obtain ⟨hown2, hbel3, hsz2, hblk⟩ := round_frame (S := (ak, ax, ay, ao, af)) hown hbel hsz hbel2
      obtain ⟨e0, e1, e2, e3, e4⟩ := st_cells hblk
      clear hown hbel hbel2 hblk d0 d1 d2 d3 d4 hbw
      by_cases hp : Op.bytesLess X M = true
      · have HR : Hid ((A.take (k + 1)).filter (fun a => Al.lt (Al.txt a) M) = L ++ [(ak, ax, ay, ao, af)]) := by rw [Hid, HFS.out, if_pos (by simp only [HXE.out]; exact hp)]
        go_wp2_with (at_builtin; refine append_new (w0 := w1) rfl (.tmp 26) (.tmp 28) 68 rfl (w.heap.size + 1) 72 i0 (.agg (stA (0, 0, 0, 0, 0))) 5 16 Try.underlying68 hi hz0 hz1 hz2 rfl (by decide) _ L.length (flat L) rfl hown2 (stA (ak, ax, ay, ao, af)) rfl (by simp [stA, Value.oneCell']) rfl (by omega) (by decide) hsz2 hbel3 ?_; intro v3 w3 hown3 hbel4)
        go_roundw
        case rel => exact ⟨k + 1, by omega, by go_num, by rw [HR.out, flat_snoc]; simpa using hown3, hbel4⟩
        case measure => simp [intOf]; omega
      · have hpf : Op.bytesLess X M = false := by simpa using hp
        have HR : Hid ((A.take (k + 1)).filter (fun a => Al.lt (Al.txt a) M) = L) := by rw [Hid, HFS.out, if_neg (by simp only [HXE.out]; exact hp)]; simp
        clear hp
        go_wp2_with fail
        go_roundw
        case rel => exact ⟨k + 1, by omega, by go_num, by rw [HR.out]; exact hown2, hbel3⟩
        case measure => simp [intOf]; omega
    · rw [List.take_of_length_le (by omega)] at hown hfl
      generalize A.filter (fun a => Al.lt (Al.txt a) M) = L at *
      have hb2 : wr.heap[w.heap.size]? = some (.cells (stA (sk, sx, sy, so, sf)) 72 (0, 0)) := by rw [hbel.block _ (by omega)]; exact HB1.out
      obtain ⟨e0, e1, e2, e3, e4⟩ := st_cells hb2
      have hLA : L.length ≤ A.length := by omega
      go_wp2_with (at_builtin; refine append_new (w0 := w1) rfl (.tmp 31) (.tmp 33) 68 rfl (w.heap.size + 1) 72 i0 (.agg (stA (0, 0, 0, 0, 0))) 5 16 Try.underlying68 hi hz0 hz1 hz2 rfl (by decide) _ L.length (flat L) rfl hown (stA (sk, sx, sy, so, sf)) rfl (by simp [stA, Value.oneCell']) rfl (by omega) (by decide) hsz hbel ?_; intro v3 w3 hown3 hbel4)
      have hown4 : w3.ownsRow (w.heap.size + 1) 72 5 v3 (L ++ [(sk, sx, sy, so, sf)]).length (flat (L ++ [(sk, sx, sy, so, sf)])) := by rw [flat_snoc]; simpa using hown3
      have hL2 : (L ++ [(sk, sx, sy, so, sf)]).length ≤ A.length + 1 := by simp; omega
      have HW2 : Hid (AW = (L ++ [(sk, sx, sy, so, sf)]) ++ A.filter (fun a => Al.lt M (Al.txt a))) := by rw [Hid, HWP.out]; simp
      generalize L ++ [(sk, sx, sy, so, sf)] = L2 at *
      clear hown hbel hbw hb2 e0 e1 e2 e3 e4 hown3 hfl hLA hsz
      go_loopw [5, 37] (fun v i wr => ∃ k : Nat, k ≤ A.length ∧ i = .int .i64 k ∧ wr.ownsRow (w.heap.size + 1) 72 5 v (L2 ++ (A.take k).filter (fun a => Al.lt M (Al.txt a))).length (flat (L2 ++ (A.take k).filter (fun a => Al.lt M (Al.txt a)))) ∧ Below (w.heap.size + 1) w1 wr) (fun _ i _ => A.length - (intOf i).toNat)
      case atStart => exact ⟨0, Nat.zero_le _, rfl, by simpa using hown4, hbel4⟩
      case round =>
        rename_i k0 _ _
        obtain ⟨k, hk, rfl, hown, hbel⟩ := hrel
        clear hown4 hbel4
        have hsz : w.heap.size + 1 ≤ wr.heap.size := Nat.le_trans hsz1 hbel.size
        have hbw := HBW1.out.trans (hbel.mono (Nat.le_succ _))
        have hfl := fil_len (A := A) (p := fun a => Al.lt M (Al.txt a)) (k := k)
        by_cases hlt : k < A.length
        · have HFS := hid (fil_succ (p := fun a => Al.lt M (Al.txt a)) hlt)
          generalize (A.take k).filter (fun a => Al.lt M (Al.txt a)) = L at *
          obtain ⟨c0, c1, c2, c3, c4⟩ := HC.out k hlt
          generalize A[k] = a at *
          have HTA := hid (text_any a)
          obtain ⟨X, hX⟩ : ∃ X, Al.txt a = X := ⟨_, rfl⟩
          rw [hX] at HTA
          have HXE := hid hX
          clear hX
          obtain ⟨ak, ax, ay, ao, af⟩ := a
          simp only [stA] at HTA
          have d0 := (hbw.cell (p := ⟨g, k * 5, none⟩) hg).trans c0
          have d1 := (hbw.cell (p := ⟨g, k * 5 + 1, none⟩) hg).trans c1
          have d2 := (hbw.cell (p := ⟨g, k * 5 + 2, none⟩) hg).trans c2
          have d3 := (hbw.cell (p := ⟨g, k * 5 + 3, none⟩) hg).trans c3
          have d4 := (hbw.cell (p := ⟨g, k * 5 + 4, none⟩) hg).trans c4
          simp only at d0 d1 d2 d3 d4
          clear c0 c1 c2 c3 c4
          go_wp2_with fail
          refine (HTA.out _).mono ?_
          rintro e w2 ⟨rfl, hbel2⟩
          obtain ⟨hown2, hbel3, hsz2, hblk⟩ := round_frame (S := (ak, ax, ay, ao, af)) hown hbel hsz hbel2
          obtain ⟨e0, e1, e2, e3, e4⟩ := st_cells hblk
          clear hown hbel hbel2 hblk d0 d1 d2 d3 d4 hbw
          have hLs : (L2 ++ L).length ≤ 2 * A.length + 1 := by simp; omega
          by_cases hp : Op.bytesLess M X = true
          · have HR : Hid (L2 ++ (A.take (k + 1)).filter (fun a => Al.lt M (Al.txt a)) = (L2 ++ L) ++ [(ak, ax, ay, ao, af)]) := by rw [Hid, HFS.out, if_pos (by simp only [HXE.out]; exact hp)]; simp
            have hq1 : Op.bytesLess X M = false := Al.lt_asymm hp
            have hq2 : (X == M) = false := by
              rw [beq_eq_false_iff_ne]; intro h; rw [h] at hp; have := Al.lt_irrefl M; rw [show Op.bytesLess M M = Al.lt M M from rfl, this] at hp; cases hp
            generalize L2 ++ L = L3 at *
            clear hp
            go_wp2_with (at_builtin; refine append_new (w0 := w1) rfl (.tmp 46) (.tmp 48) 68 rfl (w.heap.size + 1) 72 i0 (.agg (stA (0, 0, 0, 0, 0))) 5 16 Try.underlying68 hi hz0 hz1 hz2 rfl (by decide) _ L3.length (flat L3) rfl hown2 (stA (ak, ax, ay, ao, af)) rfl (by simp [stA, Value.oneCell']) rfl (by omega) (by decide) hsz2 hbel3 ?_; intro v3 w3 hown3 hbel4)
            go_roundw
            case rel => exact ⟨k + 1, by omega, by go_num, by rw [HR.out, flat_snoc]; simpa using hown3, hbel4⟩
            case measure => simp [intOf]; omega
          · have HR : Hid (L2 ++ (A.take (k + 1)).filter (fun a => Al.lt M (Al.txt a)) = L2 ++ L) := by rw [Hid, HFS.out, if_neg (by simp only [HXE.out]; exact hp)]; simp
            generalize L2 ++ L = L3 at *
            by_cases hXM : X = M
            · subst hXM
              have hirr : Op.bytesLess X X = false := Al.lt_irrefl X
              clear hp
              go_wp2_with fail
              go_roundw
              case rel => exact ⟨k + 1, by omega, by go_num, by rw [HR.out]; exact hown2, hbel3⟩
              case measure => simp [intOf]; omega
            · have hq1 : Op.bytesLess X M = true := Al.lt_total (fun h => hXM h.symm) (by simpa using hp)
              clear hp hXM
              go_wp2_with fail
              go_roundw
              case rel => exact ⟨k + 1, by omega, by go_num, by rw [HR.out]; exact hown2, hbel3⟩
              case measure => simp [intOf]; omega
        · rw [List.take_of_length_le (by omega)] at hown
          go_wp2
          go_ret
          exact ⟨_, rfl, by rw [HW2.out]; exact ownsRow_base hown (Nat.le_succ _), hbw⟩
end Go.Proofs.Ytljafkdaljkanaa
