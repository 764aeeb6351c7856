import Derived.Test.YtljafkdaljkanaaProgA
import Derived.Deep.RegionHeld3
import Derived.Laws.IdiomStrings
namespace Go.Proofs.Ytljafkdaljkanaa
open Go.RowKit

/-- The cells of a statement. -/
def stA (s : Al.St) : Array Value := #[.int .i64 (s.1 : Nat), .int .u8 (s.2.1.toNat : Nat), .int .u8 (s.2.2.1.toNat : Nat), .int .u8 (s.2.2.2.1.toNat : Nat), .int .u8 (s.2.2.2.2.toNat : Nat)]

theorem u8_ne {m : UInt8} {n : Nat} (hn : n < 256) (h : m ≠ UInt8.ofNat n) : m.toNat ≠ n := fun e => h (Al.u8_of e hn)

set_option maxHeartbeats 1000000 in
theorem byteAt_any (s : Al.St) (m : UInt8) (w : World) :
    Calls Try.prog 72 #[.agg (stA s), .int .u8 (m.toNat : Nat)] w fun e w' => e = .returned (.int .u8 ((Al.byteAt s m).toNat : Nat)) ∧ w' = w.alloc (.cells (stA s) 72) := by
  obtain ⟨k, x, y, o, f⟩ := s
  simp only [stA]
  by_cases h1 : m = 120
  · subst h1
    go_enter Try.func72, Try.ntmps72
    go_wp2
    go_ret
    exact ⟨rfl, rfl⟩
  by_cases h2 : m = 121
  · subst h2
    go_enter Try.func72, Try.ntmps72
    go_wp2
    go_ret
    exact ⟨rfl, rfl⟩
  by_cases h3 : m = 111
  · subst h3
    go_enter Try.func72, Try.ntmps72
    go_wp2
    go_ret
    exact ⟨rfl, rfl⟩
  by_cases h4 : m = 102
  · subst h4
    go_enter Try.func72, Try.ntmps72
    go_wp2
    go_ret
    exact ⟨rfl, rfl⟩
  have HF : Hid (Al.byteAt (k, x, y, o, f) m = m) := by rw [Hid, Al.byteAt, if_neg h1, if_neg h2, if_neg h3, if_neg h4]
  have g1 : ((m.toNat : Int) == 120) = false := beq_eq_false_iff_ne.2 (by have := u8_ne (n := 120) (by decide) h1; omega)
  have g2 : ((m.toNat : Int) == 121) = false := beq_eq_false_iff_ne.2 (by have := u8_ne (n := 121) (by decide) h2; omega)
  have g3 : ((m.toNat : Int) == 111) = false := beq_eq_false_iff_ne.2 (by have := u8_ne (n := 111) (by decide) h3; omega)
  have g4 : ((m.toNat : Int) == 102) = false := beq_eq_false_iff_ne.2 (by have := u8_ne (n := 102) (by decide) h4; omega)
  clear h1 h2 h3 h4
  go_enter Try.func72, Try.ntmps72
  go_wp2
  go_ret
  exact ⟨by rw [HF.out]; rfl, rfl⟩

def bv (b : UInt8) : Value := .int .u8 (b.toNat : Nat)
theorem Try.info5 : (Try.prog.info? 5).map (fun i => (i.zero, i.size, i.bytes)) = some (some (.int .u8 0), 1, 1) := by kernel_rfl

theorem convert_own {w : World} {base : Nat} {v : Value} {l : List UInt8} (h : w.ownsRow base 5 1 v l.length (l.map bv)) (hne : l ≠ []) : (convert 67 9 v).run Try.prog w = .ok (.string (bs l)) w := by
  rcases h.2 with ⟨_, hn⟩ | ⟨g, cap, cur, rfl, _, hg, hl, hm, hsz, htk⟩
  · exact absurd (List.eq_nil_of_length_eq_zero hn) hne
  · exact run_convert_bytes_back w 67 9 5 ⟨g, 0, none⟩ cap l Try.underlying67 Try.underlying5 Try.underlying9 (fun j hj => h.cells (g := g) rfl j _ (by simp [bv, hj]))

theorem txt_take_succ {s : Al.St} {q : List UInt8} {k : Nat} (h : k < q.length) : (q.take (k + 1)).map (Al.byteAt s) = (q.take k).map (Al.byteAt s) ++ [Al.byteAt s q[k]] := by
  rw [List.take_succ_eq_append_getElem h, List.map_append]; rfl

set_option maxRecDepth 100000 in
set_option maxHeartbeats 1000000 in
theorem text_any (st : Al.St) (w : World) :
    Calls Try.prog 41 #[.agg (stA st)] w fun e w' => e = .returned (.string (bs (Al.txt st))) ∧ Below w.heap.size w w' := by
  obtain ⟨i0, hi, hz0, hz1, hz2⟩ := info_parts Try.info5
  have hs4 := Al.shpLen_ge st.1
  rw [← Al.shp_length] at hs4
  have HT : Hid (Al.txt st = (Al.shp st.1).map (Al.byteAt st)) := rfl
  have hbsz : (bs (Al.shp st.1)).size = (Al.shp st.1).length := rfl
  obtain ⟨q, hq⟩ : ∃ q, Al.shp st.1 = q := ⟨_, rfl⟩
  rw [hq] at HT hbsz hs4
  have HQ := hid hq
  have HB := byteAt_any st
  have HSH := hid (shapeOf_any st.1)
  rw [hq] at HSH
  clear hq
  have HA := hid HB
  clear HB
  unfold stA at HA ⊢
  go_enter Try.func41, Try.ntmps41
  go_wp2_with fail
  refine (HSH.out _).mono ?_
  rintro e w1 ⟨rfl, rfl⟩
  go_wp2_with fail
  generalize hO : Obj.cells #[Value.int .i64 ↑st.fst, Value.int .u8 ↑st.snd.fst.toNat, Value.int .u8 ↑st.snd.snd.fst.toNat, Value.int .u8 ↑st.snd.snd.snd.fst.toNat, Value.int .u8 ↑st.snd.snd.snd.snd.toNat] 72 = O at *
  have hnew : (w.alloc O).heap[w.heap.size]? = some O := heap_alloc_new w O
  rw [← hO] at hnew
  have e0 := cell_of_row _ _ 0 _ _ _ hnew
  have e1 := cell_of_row _ _ 1 _ _ _ hnew
  have e2 := cell_of_row _ _ 2 _ _ _ hnew
  have e3 := cell_of_row _ _ 3 _ _ _ hnew
  have e4 := cell_of_row _ _ 4 _ _ _ hnew
  simp only [List.getElem?_toArray, List.getElem?_cons_zero, List.getElem?_cons_succ] at e0 e1 e2 e3 e4
  rw [hO] at e0 e1 e2 e3 e4
  have HE := hid (And.intro e0 (And.intro e1 (And.intro e2 (And.intro e3 e4))))
  have HO := hid hO
  clear hnew e0 e1 e2 e3 e4 hO
  go_loopw [4, 5] (fun v i wr => ∃ k : Nat, k ≤ q.length ∧ i = .int .i64 k ∧ wr.ownsRow (w.heap.size + 1) 5 1 v ((q.take k).map (Al.byteAt st)).length (((q.take k).map (Al.byteAt st)).map bv) ∧ Below (w.heap.size + 1) (w.alloc O) wr) (fun _ i _ => q.length - (intOf i).toNat)
  case atStart => exact ⟨0, Nat.zero_le _, rfl, World.ownsRow_nil _ _ _ _, Below.refl _ _⟩
  case round =>
    obtain ⟨k, hk, rfl, hown, hbel⟩ := hrel
    obtain ⟨L, hL⟩ : ∃ L, (q.take k).map (Al.byteAt st) = L := ⟨_, rfl⟩
    have hLl : L.length = k := by rw [← hL]; simp; omega
    rw [hL] at hown
    have HLL := hid hL
    clear hL
    have hsz := hbel.size
    rw [World.size_alloc] at hsz
    by_cases hlt : k < q.length
    · have l1 : (0 : Int) ≤ (k : Int) := by omega
      have l2 : (k : Int) < ((bs q).size : Int) := by omega
      have c0 := (hbel.cell (p := ⟨w.heap.size, 0, none⟩) (by simp)).trans HE.out.1
      have c1 := (hbel.cell (p := ⟨w.heap.size, 1, none⟩) (by simp)).trans HE.out.2.1
      have c2 := (hbel.cell (p := ⟨w.heap.size, 2, none⟩) (by simp)).trans HE.out.2.2.1
      have c3 := (hbel.cell (p := ⟨w.heap.size, 3, none⟩) (by simp)).trans HE.out.2.2.2.1
      have c4 := (hbel.cell (p := ⟨w.heap.size, 4, none⟩) (by simp)).trans HE.out.2.2.2.2
      go_wp2_with fail
      go_region_held3 (fun w' => w'.cell? ⟨w.heap.size, 0, none⟩ = some (.int .i64 ↑st.fst) ∧ w'.cell? ⟨w.heap.size, 1, none⟩ = some (.int .u8 ↑st.snd.fst.toNat) ∧ w'.cell? ⟨w.heap.size, 2, none⟩ = some (.int .u8 ↑st.snd.snd.fst.toNat) ∧ w'.cell? ⟨w.heap.size, 3, none⟩ = some (.int .u8 ↑st.snd.snd.snd.fst.toNat) ∧ w'.cell? ⟨w.heap.size, 4, none⟩ = some (.int .u8 ↑st.snd.snd.snd.snd.toNat)) (go_keep)
        ((go_at_call 72; refine (HA.out _ _).mono ?_; rintro e w' ⟨rfl, rfl⟩))
      have hq6 := hs4.2
      have HOWN := hid (fun C => (hown.alloc O).alloc C)
      have HBEL := hid (fun C => ((hbel.alloc hsz O).alloc (by rw [World.size_alloc]; omega) C).drew)
      clear hown hbel c0 c1 c2 c3 c4
      go_wp2_with (at_builtin; refine append_at (w0 := w.alloc O) rfl (.tmp 21) (.tmp 23) 67 rfl (w.heap.size + 1) 5 i0 (.int .u8 0) 1 1 Try.underlying67 hi hz0 hz1 hz2 rfl (by decide) _ L.length (L.map bv) rfl (by exact HOWN.out _) (wr.heap.size + 1) #[.int .u8 ↑(Al.byteAt st (bs q)[k]).toNat] (by exact heap2 wr O _) rfl (by simp [Value.oneCell']) rfl (by omega) (by decide) (by simp; omega) (by exact HBEL.out _) ?_; intro v3 w3 hown3 hbel3)
      go_roundw
      case rel => exact ⟨k + 1, by omega, by go_num, by rw [txt_take_succ hlt, HLL.out]; simpa [bv] using (show w3.ownsRow _ _ _ v3 (L.length + 1) (L.map bv ++ [Value.int .u8 ↑(Al.byteAt st q[k]).toNat]) from hown3), hbel3⟩
      case measure => simp [intOf]; omega
    · have hkq : k = q.length := by omega
      have HLq : Hid (Al.txt st = L) := by rw [Hid, HT.out, ← HLL.out, List.take_of_length_le (by omega)]
      have hne : L ≠ [] := fun e => by rw [e] at hLl; simp at hLl; omega
      have hcv := convert_own hown hne
      have HBEL := hid hbel
      clear hkq hne hown hbel hLl
      go_wp2
      go_ret
      refine ⟨by rw [HLq.out]; rfl, ?_⟩
      have := HBEL.out.mono (Nat.le_succ _)
      exact ((Below.refl _ w).alloc (Nat.le_refl _) O).trans this
end Go.Proofs.Ytljafkdaljkanaa
