import Derived.Test.YtljafkdaljkanaaProgE
import Derived.Laws.StructEq
namespace Go.Proofs.Ytljafkdaljkanaa
open Go.RowKit

set_option maxRecDepth 100000 in
set_option maxHeartbeats 1000000 in
theorem with_nil (st : Al.St) (w : World) :
    Calls Try.prog 61 #[.slice none 0 0, .agg (stA st)] w fun e w' => ∃ v, e = .returned v ∧ w'.ownsRow w.heap.size 72 5 v 1 (flat [st]) ∧ Below w.heap.size w w' := by
  obtain ⟨i0, hi, hz0, hz1, hz2⟩ := info_parts Try.info72
  have HTX := hid (text_any st)
  obtain ⟨sk, sx, sy, so, sf⟩ := st
  simp only [stA] at HTX ⊢
  go_enter Try.func61, Try.ntmps61
  go_wp2_with fail
  refine (HTX.out _).mono ?_
  rintro e w1 ⟨rfl, hbel1⟩
  generalize hO : Obj.cells #[Value.int .i64 ↑sk, Value.int .u8 ↑sx.toNat, Value.int .u8 ↑sy.toNat, Value.int .u8 ↑so.toNat, Value.int .u8 ↑sf.toNat] 72 = O at *
  have hnew : (w.alloc O).heap[w.heap.size]? = some (.cells (stA (sk, sx, sy, so, sf)) 72 (0, 0)) := by rw [heap_alloc_new w O, ← hO]; rfl
  have hbw0 : Below w.heap.size w (w.alloc O) := (Below.refl _ _).alloc (Nat.le_refl _) O
  rw [World.size_alloc] at hbel1
  have hb1 : w1.heap[w.heap.size]? = some (.cells (stA (sk, sx, sy, so, sf)) 72 (0, 0)) := by rw [hbel1.block _ (by omega)]; exact hnew
  have hbw1 : Below w.heap.size w w1 := hbw0.trans (hbel1.mono (by omega))
  have hsz1 : w.heap.size + 1 ≤ w1.heap.size := by have := hbel1.size; rwa [World.size_alloc] at this
  obtain ⟨e0, e1, e2, e3, e4⟩ := st_cells hb1
  clear hO hnew hbw0 hbel1 hb1
  go_wp2_with fail
  refine wp_loop_rounds 1 ?_
  rw [rounds_succ]
  go_wp2_with (at_builtin; refine append_new (w0 := w) rfl (.tmp 31) (.tmp 33) 68 rfl w.heap.size 72 i0 (.agg (stA (0, 0, 0, 0, 0))) 5 16 Try.underlying68 hi hz0 hz1 hz2 rfl (by decide) _ 0 [] rfl (World.ownsRow_nil _ _ _ _) (stA (sk, sx, sy, so, sf)) rfl (by simp [stA, Value.oneCell']) rfl (by omega) (by decide) (by omega) hbw1 ?_; intro v3 w3 hown3 hbel3)
  refine wp_loop_rounds 1 ?_
  rw [rounds_succ]
  go_wp2_with fail
  go_ret
  exact ⟨_, rfl, by simpa [flat] using hown3, hbel3⟩

theorem with_any (A : List Al.St) (st : Al.St) (v : Value) (w : World) (hr : RdA w v A) (hs : A.length ≤ 100000) :
    Calls Try.prog 61 #[v, .agg (stA st)] w fun e w' => ∃ v, e = .returned v ∧ w'.ownsRow w.heap.size 72 5 v (Al.withP A st).length (flat (Al.withP A st)) ∧ Below w.heap.size w w' := by
  rcases hr.shape with ⟨rfl, rfl⟩ | ⟨g, cap, rfl, hl, hm, hg, hc⟩
  · exact with_nil st w
  · exact with_some A st g cap w hl hm hg hc hs

theorem st_guard : Try.prog.eqGuardType Try.prog.depth 72 = false := by kernel_rfl
theorem st_fields : Try.prog.underlying 72 = some (.struct (Try.prog.fieldsOf 72)) := by kernel_rfl
theorem st_held : Try.prog.stoodInHeld 72 = false := by kernel_rfl
set_option maxRecDepth 100000 in
theorem run_neq_st (k : Nat) (x y o f : UInt8) (k' : Nat) (x' y' o' f' : UInt8) (w : World) :
    (binOp .neq 72 (.agg #[.int .i64 (k : Nat), .int .u8 (x.toNat : Nat), .int .u8 (y.toNat : Nat), .int .u8 (o.toNat : Nat), .int .u8 (f.toNat : Nat)]) (.agg #[.int .i64 (k' : Nat), .int .u8 (x'.toNat : Nat), .int .u8 (y'.toNat : Nat), .int .u8 (o'.toNat : Nat), .int .u8 (f'.toNat : Nat)])).run Try.prog w =
      .ok (.bool (!(((k, x, y, o, f) : Al.St) == (k', x', y', o', f')))) w := by
  rw [run_neq_struct, show (10000 : Nat) = 9999 + 1 from rfl, run_equalIn_agg w 9999 72 _ _ st_fields st_held]
  have u3 := Try.underlying3
  have a3 := Try.isAgg3
  have z3 := Try.sizeOf3
  have u5 := Try.underlying5
  have a5 := Try.isAgg5
  have z5 := Try.sizeOf5
  simp only [Program.fieldsOf, Try.underlying72]
  go_simp
  by_cases he : ((k, x, y, o, f) : Al.St) = (k', x', y', o', f')
  · rw [beq_iff_eq.2 he]
    simp only [Prod.mk.injEq] at he
    obtain ⟨rfl, rfl, rfl, rfl, rfl⟩ := he
    simp
  · rw [beq_eq_false_iff_ne.2 he]
    have key : ¬ (((k : Int) = k') ∧ ((x.toNat : Int) = x'.toNat) ∧ ((y.toNat : Int) = y'.toNat) ∧ ((o.toNat : Int) = o'.toNat) ∧ ((f.toNat : Int) = f'.toNat)) := fun ⟨a, b, c, d, e⟩ => he (by
      rw [show k = k' from by omega, UInt8.toNat_inj.1 (show x.toNat = x'.toNat from by omega), UInt8.toNat_inj.1 (show y.toNat = y'.toNat from by omega), UInt8.toNat_inj.1 (show o.toNat = o'.toNat from by omega), UInt8.toNat_inj.1 (show f.toNat = f'.toNat from by omega)])
    repeat' split
    all_goals first | rfl | exact absurd ⟨‹_›, ‹_›, ‹_›, ‹_›, ‹_›⟩ key
set_option maxRecDepth 100000 in
set_option maxHeartbeats 2000000 in
theorem without_some (A : List Al.St) (st : Al.St) (g cap : Nat) (w : World) (_hl : A.length ≤ cap) (_hm : cap ≤ 9223372036854775807) (hg : g < w.heap.size)
    (hc : ∀ k (h : k < A.length), w.cell? ⟨g, k * 5, none⟩ = some (.int .i64 (A[k].1 : Nat)) ∧ w.cell? ⟨g, k * 5 + 1, none⟩ = some (.int .u8 (A[k].2.1.toNat : Nat)) ∧ w.cell? ⟨g, k * 5 + 2, none⟩ = some (.int .u8 (A[k].2.2.1.toNat : Nat)) ∧
        w.cell? ⟨g, k * 5 + 3, none⟩ = some (.int .u8 (A[k].2.2.2.1.toNat : Nat)) ∧ w.cell? ⟨g, k * 5 + 4, none⟩ = some (.int .u8 (A[k].2.2.2.2.toNat : Nat)))
    (hs : A.length ≤ 100000) :
    Calls Try.prog 62 #[.slice (some ⟨g, 0, none⟩) A.length cap, .agg (stA st)] w fun e w' => ∃ v, e = .returned v ∧ w'.ownsRow w.heap.size 72 5 v (Al.dropP A st).length (flat (Al.dropP A st)) ∧ Below w.heap.size w w' := by
  obtain ⟨i0, hi, hz0, hz1, hz2⟩ := info_parts Try.info72
  have HC := hid hc
  have HWP : Hid (Al.dropP A st = A.filter (fun a => !(a == st))) := rfl
  generalize Al.dropP A st = AW at *
  clear hc
  obtain ⟨S, hS⟩ : ∃ S, st = S := ⟨_, rfl⟩
  have HSE := hid hS
  clear hS
  obtain ⟨sk, sx, sy, so, sf⟩ := st
  simp only [stA]
  go_enter Try.func62, Try.ntmps62
  go_wp2_with fail
  generalize hO : Obj.cells #[Value.int .i64 ↑sk, Value.int .u8 ↑sx.toNat, Value.int .u8 ↑sy.toNat, Value.int .u8 ↑so.toNat, Value.int .u8 ↑sf.toNat] 72 = O at *
  have hb1 : (w.alloc O).heap[w.heap.size]? = some (.cells (stA (sk, sx, sy, so, sf)) 72 (0, 0)) := by rw [heap_alloc_new w O, ← hO]; rfl
  have hbw1 : Below w.heap.size w (w.alloc O) := (Below.refl _ _).alloc (Nat.le_refl _) O
  have hsz1 : w.heap.size + 1 ≤ (w.alloc O).heap.size := by rw [World.size_alloc]; omega
  generalize w.alloc O = w1 at *
  have HB1 := hid hb1
  have HBW1 := hid hbw1
  clear hO hb1 hbw1
  go_loopw [5, 10] (fun v i wr => ∃ k : Nat, k ≤ A.length ∧ i = .int .i64 k ∧ wr.ownsRow (w.heap.size + 1) 72 5 v ((A.take k).filter (fun a => !(a == (sk, sx, sy, so, sf)))).length (flat ((A.take k).filter (fun a => !(a == (sk, sx, sy, so, sf))))) ∧ Below (w.heap.size + 1) w1 wr) (fun _ i _ => A.length - (intOf i).toNat)
  case atStart => exact ⟨0, Nat.zero_le _, rfl, World.ownsRow_nil _ _ _ _, Below.refl _ _⟩
  case round =>
    obtain ⟨k, hk, rfl, hown, hbel⟩ := hrel
    have hsz : w.heap.size + 1 ≤ wr.heap.size := Nat.le_trans hsz1 hbel.size
    have hbw := HBW1.out.trans (hbel.mono (Nat.le_succ _))
    have hfl := fil_len (A := A) (p := fun a => !(a == (sk, sx, sy, so, sf))) (k := k)
    by_cases hlt : k < A.length
    · have HFS := hid (fil_succ (p := fun a => !(a == (sk, sx, sy, so, sf))) hlt)
      generalize (A.take k).filter (fun a => !(a == (sk, sx, sy, so, sf))) = L at *
      obtain ⟨c0, c1, c2, c3, c4⟩ := HC.out k hlt
      generalize A[k] = a at *
      obtain ⟨ak, ax, ay, ao, af⟩ := a
      have hb2 : wr.heap[w.heap.size]? = some (.cells (stA (sk, sx, sy, so, sf)) 72 (0, 0)) := by rw [hbel.block _ (by omega)]; exact HB1.out
      obtain ⟨m0, m1, m2, m3, m4⟩ := st_cells hb2
      have d0 := (hbw.cell (p := ⟨g, k * 5, none⟩) hg).trans c0
      have d1 := (hbw.cell (p := ⟨g, k * 5 + 1, none⟩) hg).trans c1
      have d2 := (hbw.cell (p := ⟨g, k * 5 + 2, none⟩) hg).trans c2
      have d3 := (hbw.cell (p := ⟨g, k * 5 + 3, none⟩) hg).trans c3
      have d4 := (hbw.cell (p := ⟨g, k * 5 + 4, none⟩) hg).trans c4
      simp only at d0 d1 d2 d3 d4
      clear c0 c1 c2 c3 c4 hb2
      have hgu := st_guard
      have hq1 : w.heap.size < wr.heap.size := by omega
      have hnq := run_neq_st ak ax ay ao af sk sx sy so sf
      by_cases hp : ((ak, ax, ay, ao, af) : Al.St) = (sk, sx, sy, so, sf)
      · have hpb : (((ak, ax, ay, ao, af) : Al.St) == (sk, sx, sy, so, sf)) = true := beq_iff_eq.2 hp
        have HR : Hid ((A.take (k + 1)).filter (fun a => !(a == (sk, sx, sy, so, sf))) = L) := by rw [Hid, HFS.out, if_neg (by rw [hpb]; simp)]; simp
        rw [hpb] at hnq
        clear hpb hp
        go_wp2_with fail
        go_roundw
        case rel => exact ⟨k + 1, by omega, by go_num, by rw [HR.out]; exact hown.alloc _, hbel.alloc hsz _⟩
        case measure => simp [intOf]; omega
      · have hpb : (((ak, ax, ay, ao, af) : Al.St) == (sk, sx, sy, so, sf)) = false := beq_eq_false_iff_ne.2 hp
        have HR : Hid ((A.take (k + 1)).filter (fun a => !(a == (sk, sx, sy, so, sf))) = L ++ [(ak, ax, ay, ao, af)]) := by rw [Hid, HFS.out, if_pos (by rw [hpb]; rfl)]
        rw [hpb] at hnq
        clear hpb hp
        have HOWN := hid (fun C C' => (hown.alloc C).alloc C')
        have HBEL := hid (fun C C' => (hbel.alloc hsz C).alloc (by rw [World.size_alloc]; omega) C')
        clear hown hbel hbw
        go_wp2_with (at_builtin; refine append_at (w0 := w1) rfl (.tmp 17) (.tmp 19) 68 rfl (w.heap.size + 1) 72 i0 (.agg (stA (0, 0, 0, 0, 0))) 5 16 Try.underlying68 hi hz0 hz1 hz2 rfl (by decide) _ L.length (flat L) rfl (by exact HOWN.out _ _) (wr.heap.size + 1) (stA (ak, ax, ay, ao, af)) (by exact heap2 wr _ _) rfl (by simp [stA, Value.oneCell']) rfl (by omega) (by decide) (by simp; omega) (by exact HBEL.out _ _) ?_; intro v3 w3 hown3 hbel3)
        go_roundw
        case rel => exact ⟨k + 1, by omega, by go_num, by rw [HR.out, flat_snoc]; simpa using hown3, hbel3⟩
        case measure => simp [intOf]; omega
    · rw [List.take_of_length_le (by omega)] at hown
      go_wp2
      go_ret
      exact ⟨_, rfl, by rw [HWP.out]; exact ownsRow_base hown (Nat.le_succ _), hbw⟩

set_option maxRecDepth 100000 in
set_option maxHeartbeats 1000000 in
theorem without_nil (st : Al.St) (w : World) :
    Calls Try.prog 62 #[.slice none 0 0, .agg (stA st)] w fun e w' => ∃ v, e = .returned v ∧ w'.ownsRow w.heap.size 72 5 v 0 [] ∧ Below w.heap.size w w' := by
  simp only [stA]
  go_enter Try.func62, Try.ntmps62
  go_wp2_with fail
  refine wp_loop_rounds 1 ?_
  rw [rounds_succ]
  go_wp2_with fail
  go_ret
  exact ⟨_, rfl, World.ownsRow_nil _ _ _ _, (Below.refl _ _).alloc (Nat.le_refl _) _⟩
theorem without_any (A : List Al.St) (st : Al.St) (v : Value) (w : World) (hr : RdA w v A) (hs : A.length ≤ 100000) :
    Calls Try.prog 62 #[v, .agg (stA st)] w fun e w' => ∃ v, e = .returned v ∧ w'.ownsRow w.heap.size 72 5 v (Al.dropP A st).length (flat (Al.dropP A st)) ∧ Below w.heap.size w w' := by
  rcases hr.shape with ⟨rfl, rfl⟩ | ⟨g, cap, rfl, hl, hm, hg, hc⟩
  · exact without_nil st w
  · exact without_some A st g cap w hl hm hg hc hs
end Go.Proofs.Ytljafkdaljkanaa
