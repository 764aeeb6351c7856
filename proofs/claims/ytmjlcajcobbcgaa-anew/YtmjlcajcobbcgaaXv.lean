import Derived.Test.YtmjlcajcobbcgaaXe
import Derived.Test.YtmjlcajcobbcgaaXg
import Derived.Deep.AppendLies
import Derived.Deep.RegionLaw
import Derived.Deep.MidRow
import Derived.Deep.RegionHeld3
import Derived.Test.YtmjlcajcobbcgaaXl
namespace Go.Proofs.Ytmjlcajcobbcgaa
open Go.RowKit

/-! The texts of fields of a length, from a field on. -/
def fieldB (k : Nat) : UInt8 := UInt8.ofNat (48 + k)
theorem fieldB_toNat {k : Nat} (h : k < 6) : (fieldB k).toNat = 48 + k := by unfold fieldB; simp; omega
def choiceP : Nat → Nat → List (List UInt8)
  | 0, _ => [[]]
  | n + 1, c => (List.range' c (6 - c)).flatMap fun k => (choiceP n (k + 1)).map (fieldB k :: ·)
/-- What is there ahead of the field q. -/
def outTo (n c q : Nat) : List (List UInt8) := (List.range' c (q - c)).flatMap fun k => (choiceP n (k + 1)).map (fieldB k :: ·)
theorem outTo_succ (n c q : Nat) (h : c ≤ q) : outTo n c (q + 1) = outTo n c q ++ (choiceP n (q + 1)).map (fieldB q :: ·) := by
  unfold outTo
  rw [show q + 1 - c = (q - c) + 1 from by omega, List.range'_concat, List.flatMap_append]
  simp
  rw [show c + (q - c) = q from by omega]
theorem choice_len (n : Nat) : ∀ c, ∀ l ∈ choiceP n c, l.length = n := by
  induction n with
  | zero => intro c l hl; simp [choiceP] at hl; simp [hl]
  | succ n ih =>
    intro c l hl
    simp only [choiceP, List.mem_flatMap, List.mem_map] at hl
    obtain ⟨k, _, m, hm, rfl⟩ := hl
    simp [ih (k + 1) m hm]
theorem choice_count (n : Nat) : ∀ c, (choiceP n c).length ≤ 2 ^ (6 - c) := by
  induction n with
  | zero => intro c; simp [choiceP]; exact Nat.one_le_two_pow
  | succ n ih =>
    have key : ∀ m c, c + m ≤ 6 → ((List.range' c m).flatMap fun k => (choiceP n (k + 1)).map (fieldB k :: ·)).length + 2 ^ (6 - (c + m)) ≤ 2 ^ (6 - c) := by
      intro m
      induction m with
      | zero => intro c _; simp
      | succ m ihm =>
        intro c hc
        have h1 := ihm (c + 1) (by omega)
        have h2 := ih (c + 1)
        rw [List.range'_succ, List.flatMap_cons, List.length_append, List.length_map]
        rw [show c + 1 + m = c + (m + 1) from by omega] at h1
        have h3 : 2 ^ (6 - c) = 2 ^ (6 - (c + 1)) + 2 ^ (6 - (c + 1)) := by
          rw [show 6 - c = (6 - (c + 1)) + 1 from by omega, Nat.pow_succ]; omega
        omega
    intro c
    by_cases hc : c ≤ 6
    · have := key (6 - c) c (by omega)
      unfold choiceP
      exact Nat.le_trans (Nat.le_add_right _ _) this
    · have h0 : 6 - c = 0 := by omega
      unfold choiceP
      rw [h0]; simp
theorem outTo_le (n c q : Nat) (h : c ≤ q) (hq : q ≤ 6) : (outTo n c q).length ≤ (choiceP (n + 1) c).length := by
  have : ∀ m, q + m ≤ 6 → (outTo n c q).length ≤ (outTo n c (q + m)).length := by
    intro m
    induction m with
    | zero => intro _; exact Nat.le_refl _
    | succ m ih =>
      intro hm
      have := ih (by omega)
      rw [← Nat.add_assoc, outTo_succ n c (q + m) (by omega), List.length_append]
      omega
  have h6 := this (6 - q) (by omega)
  rw [show q + (6 - q) = 6 from by omega] at h6
  exact h6
theorem outTo_end (n c : Nat) : outTo n c 6 = choiceP (n + 1) c := rfl
theorem outTo_len (n c q : Nat) : ∀ l ∈ outTo n c q, l.length = n + 1 := by
  intro l hl
  simp only [outTo, List.mem_flatMap, List.mem_map] at hl
  obtain ⟨k, _, m, hm, rfl⟩ := hl
  simp [choice_len n (k + 1) m hm]
theorem pow_le {c : Nat} : 2 ^ (6 - c) ≤ 64 := by
  rw [show 64 = 2 ^ 6 from rfl]; exact Nat.pow_le_pow_right (by decide) (by omega)

/-- Two rows of texts whose first texts differ in length lie in two blocks. -/
theorem rows_apart {w : World} {b1 b2 : Nat} {v u : Value} {g : Nat} {cap : Nat} {X Y : List (List UInt8)} (hX : w.ownsRow b1 9 1 v X.length (X.map sv)) (hu : u = .slice (some ⟨g, 0, none⟩) Y.length cap) (hY : w.ownsRow b2 9 1 u Y.length (Y.map sv)) (a : List UInt8) (c : List UInt8)
    (ha : X[0]? = some a) (hc : Y[0]? = some c) (hne : a.length ≠ c.length) : v.ownBlock ≠ some g := by
  intro h
  have hy := hY.cells (g := g) (by rw [hu]; rfl) 0 (sv c) (by simp [hc])
  rcases hX.2 with ⟨rfl, _⟩ | ⟨g', cap', cur, rfl, _⟩
  · simp [Value.ownBlock] at h
  · simp [Value.ownBlock] at h
    subst h
    have hx := hX.cells (g := g') rfl 0 (sv a) (by simp [ha])
    rw [hx] at hy
    simp only [Option.some.injEq, sv, Value.string.injEq] at hy
    have : (bs a).size = (bs c).size := by rw [hy]
    exact hne this
end Go.Proofs.Ytmjlcajcobbcgaa

namespace Go.Proofs.Ytmjlcajcobbcgaa
open Go.RowKit

/-- As append_new; and what was there but the row's own block is as it was. -/
theorem append_grow {P : Program} {ops : Array Oper} {rest : List Oper} {o : Oper} {a : Act} {Q : Exit → Act → World → Prop} {w0 wb : World} (hgd : o.guard = none) (s x : Operand) (t : TypeId)
    (ho : o.op = .call { callee := .builtin .append, args := #[s, x], argTypes := #[t, t] })
    (base : Nat) (e : TypeId) (i : TypeInfo) (z : Value) (size bytes : Nat) (ht : P.underlying t = some (.slice e)) (hi : P.info? e = some i) (hz : i.zero = some z)
    (hsize : i.size = size) (hby : i.bytes = bytes) (hzs : z.cells.size = size) (hsz : 0 < size)
    (v : Value) (n : Nat) (xs : List Value) (hs : a.eval s = v) (hown : wb.ownsRow base e size v n xs) (cur : Array Value) (hcur : cur.size = size) (h1 : ∀ u ∈ cur.toList, u.oneCell' = true)
    (hx : a.eval x = .slice (some ⟨wb.heap.size, 0, none⟩) 1 1) (hn : n + 1 ≤ 2000000) (hb : bytes ≤ 1000) (hbase : base ≤ wb.heap.size) (hbel : Below base w0 wb)
    (h : ∀ v' w', w'.ownsRow base e size v' (n + 1) (xs ++ cur.toList) → Below base w0 w' → (wb.alloc (.cells cur e)).grownBy w' v.ownBlock → wpList P ops Q rest (a.put o.dst v') w') : wpList P ops Q (o :: rest) a (wb.alloc (.cells cur e)) := by
  refine wpList_append_own _ hgd s x t ho base e i z size bytes ht hi hz hsize hby hzs hsz v n xs hs (hown.alloc _) ⟨wb.heap.size, 0, none⟩ 1 1 cur.toList hx (by simpa using hcur) ?_ h1 ?_ ?_ ?_ ?_
  · intro j u hj
    have hadd : (⟨wb.heap.size, 0, none⟩ : Addr).add j = ⟨wb.heap.size, j, none⟩ := by unfold Addr.add; split <;> simp_all
    rw [hadd, cell_of_row (wb.alloc (.cells cur e)) wb.heap.size j cur e (0, 0) (heap_alloc_new wb _)]
    simpa using hj
  · simp only [maxLen]; omega
  · exact Nat.le_trans (Nat.mul_le_mul hn hb) (by decide)
  · simp; omega
  · intro v' w' h2 h3 _
    refine h v' w' h2 ((hbel.alloc hbase _).grown h3 (by simp; omega) ?_) h3
    intro k hk
    exact (hown.lt k hk).1
/-- A text more, in a region that draws. -/
theorem step_text {ops : Array Oper} {o : Oper} {a : Act} {K : Act → World → Prop} {Q : Exit → Act → World → Prop} {E : Prop} {w0 wx : World} {i0 : TypeInfo} (hi : Try.prog.info? 9 = some i0) (hz0 : i0.zero = some (.string ⟨#[]⟩)) (hz1 : i0.size = 1) (hz2 : i0.bytes = 16) (hgd : o.guard = none) (s x : Operand)
    (ho : o.op = .call { callee := .builtin .append, args := #[s, x], argTypes := #[29, 29] }) (base : Nat) (v : Value) (n : Nat) (xs : List Value) (hs : a.eval s = v) (hown : wx.ownsRow base 9 1 v n xs) (g1 : Nat) (t : List UInt8)
    (hg : wx.heap[g1]? = some (.cells #[.string (bs t)] 9 (0, 0))) (hx : a.eval x = .slice (some ⟨g1, 0, none⟩) 1 1) (hn : n + 1 ≤ 2000000) (hbase : base ≤ wx.heap.size) (hbel : Below base w0 wx)
    (h : ∀ v' w', w'.ownsRow base 9 1 v' (n + 1) (xs ++ [.string (bs t)]) → Below base w0 w' → wx.grownBy w' v.ownBlock → K (a.put o.dst v') w') :
    if Region.wanted o (yielded ops a.tmps) = true then Oper.wp Try.prog o a wx K Q else E := by
  refine step_append_lies wx hgd s x 29 ho base 9 i0 (.string ⟨#[]⟩) 1 16 Try.underlying29 hi hz0 hz1 hz2 rfl (by decide) v n xs hs hown ⟨g1, 0, none⟩ 1 1 [.string (bs t)] hx rfl ?_ (by simp [Value.oneCell']) (by decide) ?_ ?_ hbase _ rfl ?_
  · intro j u hj
    match j, hj with
    | 0, hj =>
      rw [show (⟨g1, 0, none⟩ : Addr).add 0 = ⟨g1, 0, none⟩ from by simp [Addr.add], block_cell hg]
      exact hj
    | j + 1, hj => simp at hj
  · simp only [maxLen]; omega
  · exact Nat.le_trans (Nat.mul_le_mul hn (Nat.le_refl 16)) (by decide)
  · intro g cap w' h2 h3 _ _
    exact h _ w' h2 (hbel.grown h3 hbase (fun k hk => (hown.lt k hk).1)) h3
/-- A row of texts that is not written stays. -/
theorem row_stays {w w' : World} {b g cap n : Nat} {r : Option Nat} {xs : List Value} (h : w.ownsRow b 9 1 (.slice (some ⟨g, 0, none⟩) n cap) n xs) (hg : w.grownBy w' r) (hne : r ≠ some g) : w'.ownsRow b 9 1 (.slice (some ⟨g, 0, none⟩) n cap) n xs := by
  refine ⟨h.1, ?_⟩
  rcases h.2 with ⟨h1, h2⟩ | ⟨g', cap', cur, h1, h2, h3, h4⟩
  · cases h1
  · simp only [Value.slice.injEq, Option.some.injEq, Addr.mk.injEq, and_true] at h1
    obtain ⟨rfl, _, rfl⟩ := h1
    exact .inr ⟨g, cap, cur, rfl, h2, by rw [hg.block g (lt_of_block h3) (fun e => hne e.symm)]; exact h3, h4⟩
theorem out_apart {w : World} {b1 b2 g cap n : Nat} {v : Value} {X Y : List (List UInt8)} (hX : w.ownsRow b1 9 1 v X.length (X.map sv)) (hn : X = [] → v = .slice none 0 0) (hY : w.ownsRow b2 9 1 (.slice (some ⟨g, 0, none⟩) Y.length cap) Y.length (Y.map sv))
    (h1 : ∀ l ∈ X, l.length = n + 1) (h2 : ∀ l ∈ Y, l.length = n) (hne : 0 < Y.length) : v.ownBlock ≠ some g := by
  match X, hX, hn, h1 with
  | [], _, hn, _ => rw [hn rfl]; simp [Value.ownBlock]
  | a :: X, hX, _, h1 =>
    match Y, hY, h2, hne with
    | [], _, _, hne => simp at hne
    | c :: Y, hY, h2, _ => exact rows_apart hX rfl hY a c rfl rfl (by rw [h1 a (by simp), h2 c (by simp)]; omega)
theorem part_len {O L : List (List UInt8)} {b : UInt8} {n j : Nat} (h1 : ∀ l ∈ O, l.length = n + 1) (h2 : ∀ l ∈ L, l.length = n) : ∀ l ∈ O ++ (L.take j).map (b :: ·), l.length = n + 1 := by
  intro l hl
  rcases List.mem_append.1 hl with hl | hl
  · exact h1 l hl
  · obtain ⟨m, hm, rfl⟩ := List.mem_map.1 hl
    simp [h2 m (List.mem_of_mem_take hm)]
theorem part_succ {O L : List (List UInt8)} {b : UInt8} {j : Nat} (h : j < L.length) : O ++ (L.take (j + 1)).map (b :: ·) = (O ++ (L.take j).map (b :: ·)) ++ [b :: L[j]] := by
  rw [List.take_succ_eq_append_getElem h, List.map_append, List.append_assoc]; rfl
theorem conv_field (k : Nat) (hk : k < 6) (wx : World) : (convert 67 9 (.slice (some ⟨wx.heap.size, 0, none⟩) 1 1)).run Try.prog (wx.alloc (.cells #[.int .u8 (48 + (k : Int))] 5)) = .ok (.string (bs [fieldB k])) (wx.alloc (.cells #[.int .u8 (48 + (k : Int))] 5)) :=
  run_convert_bytes_back (P := Try.prog) (wx.alloc (.cells #[.int .u8 (48 + (k : Int))] 5)) 67 9 5 ⟨wx.heap.size, 0, none⟩ 1 [fieldB k] Try.underlying67 Try.underlying5 Try.underlying9 (fun j hj => by
    match j, hj with
    | 0, _ =>
      have e : (((fieldB k).toNat : Nat) : Int) = 48 + (k : Int) := by rw [fieldB_toNat hk]; rfl
      rw [show ((⟨wx.heap.size, 0, none⟩ : Addr).add 0) = ⟨wx.heap.size, 0, none⟩ from by simp [Addr.add], block_cell (heap_alloc_new wx _)]
      simp [e])

def Chosen (w w' : World) (v : Value) (L : List (List UInt8)) : Prop := w'.ownsRow w.heap.size 9 1 v L.length (L.map sv) ∧ Below w.heap.size w w'

set_option maxRecDepth 100000 in
set_option maxHeartbeats 2000000 in
theorem choices_zero (c : Nat) (w : World) : Calls Try.prog 95 #[.int .i64 0, .int .i64 c] w fun e w' => ∃ v, e = .returned v ∧ Chosen w w' v (choiceP 0 c) := by
  obtain ⟨i0, hi, hz0, hz1, hz2⟩ := info_parts Try.info9
  have hb0 := Below.refl w.heap.size w
  go_enter Try.func95, Try.ntmps95
  go_wp2_with (at_builtin; refine append_new (w0 := w) rfl (.tmp 11) (.tmp 12) 29 rfl w.heap.size 9 i0 (.string ⟨#[]⟩) 1 16 Try.underlying29 hi hz0 hz1 hz2 rfl (by decide) _ 0 [] rfl (World.ownsRow_nil _ _ _ _) #[.string (bs [])] rfl (by simp [Value.oneCell']) rfl (by omega) (by decide) (Nat.le_refl _) hb0 ?_; intro v3 w3 hown3 hbel3)
  go_ret
  exact ⟨_, rfl, hown3, hbel3⟩
set_option maxRecDepth 100000 in
set_option maxHeartbeats 2000000 in
theorem choices_succ (n : Nat) (hn : n < 6) (ih : ∀ (c : Nat) (w : World), c ≤ 6 → Calls Try.prog 95 #[.int .i64 n, .int .i64 c] w fun e w' => ∃ v, e = .returned v ∧ Chosen w w' v (choiceP n c)) (c : Nat) (w : World) (hc : c ≤ 6) :
    Calls Try.prog 95 #[.int .i64 ((n : Int) + 1), .int .i64 c] w fun e w' => ∃ v, e = .returned v ∧ Chosen w w' v (choiceP (n + 1) c) := by
  obtain ⟨i0, hi, hz0, hz1, hz2⟩ := info_parts Try.info9
  have hsz0 := hz1
  have HIH := hid ih
  have hne : (((n : Int) + 1) == 0) = false := beq_eq_false_iff_ne.2 (by omega)
  have hw0 : IntKind.i64.wrap ((n : Int) + 1 - 1) = (n : Int) := by rw [show (n : Int) + 1 - 1 = n from by omega]; exact IntWalk.i64_in _ ⟨by omega, by omega⟩
  have hba := bs_app
  clear ih
  go_enter Try.func95, Try.ntmps95
  go_wp2_with fail
  go_loopw [5, 6] (fun o i wr => ∃ q : Nat, c ≤ q ∧ q ≤ 6 ∧ i = .int .i64 q ∧ wr.ownsRow w.heap.size 9 1 o (outTo n c q).length ((outTo n c q).map sv) ∧ ((outTo n c q) = [] → o = .slice none 0 0) ∧ Below w.heap.size w wr) (fun _ i _ => 6 - (intOf i).toNat)
  case atStart => exact ⟨c, Nat.le_refl _, hc, rfl, by unfold outTo; rw [Nat.sub_self]; exact World.ownsRow_nil _ _ _ _, fun _ => rfl, Below.refl _ _⟩
  case round =>
    obtain ⟨q, hcq, hq, rfl, hown, hnil, hbel⟩ := hrel
    have hsz := hbel.size
    by_cases hlt : q < 6
    · have HSU := hid (outTo_succ n c q hcq)
      have HLE := hid (Nat.le_trans (outTo_le n c (q + 1) (by omega) (by omega)) (Nat.le_trans (choice_count (n + 1) c) pow_le))
      have HL1 := hid (outTo_len n c q)
      have HL2 := hid (choice_len n (q + 1))
      have HQ := hid (fun wx => HIH.out (q + 1) wx (by omega))
      have hw1 : IntKind.i64.wrap ((q : Int) + 1) = (q : Int) + 1 := IntWalk.i64_in _ ⟨by omega, by omega⟩
      generalize outTo n c q = O at *
      generalize choiceP n (q + 1) = L at *
      have HOW := hid hown
      have HNI := hid hnil
      have HBL := hid hbel
      clear hown hnil hbel
      go_wp2_with fail
      refine (HQ.out _).mono ?_
      rintro e w1 ⟨vl, rfl, hL, hb1⟩
      obtain ⟨ao, cc, hve⟩ := ownsRow_slice hL
      subst hve
      have hO1 := ownsRow_below HOW.out hb1
      have hB1 := HBL.out.trans (hb1.mono hsz)
      generalize wr.heap.size = B at *
      go_wp2_with fail
      go_loopw [5, 8] (fun o i wr => ∃ j : Nat, j ≤ L.length ∧ i = .int .i64 j ∧ wr.ownsRow w.heap.size 9 1 o (O ++ (L.take j).map (fieldB q :: ·)).length ((O ++ (L.take j).map (fieldB q :: ·)).map sv) ∧ ((O ++ (L.take j).map (fieldB q :: ·)) = [] → o = .slice none 0 0) ∧ wr.ownsRow B 9 1 (.slice ao L.length cc) L.length (L.map sv) ∧ Below w.heap.size w wr) (fun _ i _ => L.length - (intOf i).toNat)
      case atStart => exact ⟨0, Nat.zero_le _, rfl, by simpa using hO1, by simpa using HNI.out, hL, hB1⟩
      case round =>
        clear hL hb1 hO1 hB1
        obtain ⟨j, hj, rfl, hown, hnil, hrl, hbel⟩ := hrel
        have hs2 := hbel.size
        by_cases hjl : j < L.length
        · rcases hrl.2 with ⟨_, h0⟩ | ⟨gl, capl, cur, hve, hgB, hgl, hrest⟩
          · omega
          · simp only [Value.slice.injEq, true_and] at hve
            obtain ⟨rfl, rfl⟩ := hve
            have hce := hrl.cells (g := gl) rfl j (sv L[j]) (by simp [hjl])
            rw [show (⟨gl, 0, none⟩ : Addr).add j = ⟨gl, j, none⟩ from by unfold Addr.add; split <;> simp_all] at hce
            have hap := out_apart hown hnil hrl (part_len HL1.out HL2.out) HL2.out (by omega)
            have HPS := hid (part_succ (O := O) (b := fieldB q) hjl)
            have hll : L[j].length = n := HL2.out L[j] (List.getElem_mem hjl)
            have hol : O.length + L.length ≤ 64 := by have := HLE.out; rw [HSU.out] at this; simpa using this
            have hpl : (O ++ (L.take (j + 1)).map (fieldB q :: ·)).length ≤ 64 := by simp [List.length_take]; omega
            have hLl : L.length ≤ 64 := by omega
            clear hol
            rw [HPS.out, List.length_append, List.length_cons, List.length_nil] at hpl
            generalize O ++ (L.take j).map (fieldB q :: ·) = X at *
            simp only [sv] at hce
            generalize L[j] = l1 at *
            have hcv := conv_field q hlt
            have hz1 : (bs [fieldB q]).size = 1 := rfl
            have hz2' : (bs l1).size = l1.length := rfl
            have HROW := hid hrl
            have HOWN := hid (fun C D => (hown.alloc C).alloc D)
            have HBEL := hid (fun C D => ((hbel.alloc hs2 C).alloc (by simp; omega) D).drew)
            have HAP := hid hap
            clear hrl hap hnil hown hbel hgl hrest cur hgB
            have hcw : (convert 67 9 (.slice (some ⟨wr.heap.size, 0, none⟩) 1 1)).run Try.prog (wr.alloc (.cells #[.int .u8 (48 + (q : Int))] 5)).drew = .ok (.string (bs [fieldB q])) (wr.alloc (.cells #[.int .u8 (48 + (q : Int))] 5)).drew := hcv wr.drew
            go_wp2_with fail
            have hw2 : IntKind.i64.wrap (48 + (q : Int)) = 48 + (q : Int) := IntWalk.i64_in _ ⟨by omega, by omega⟩
            have hw3 : IntKind.u8.wrap (48 + (q : Int)) = 48 + (q : Int) := by rw [IntKind.wrap_u8]; omega
            have hceA : (wr.alloc (.cells #[.int .u8 (48 + (q : Int))] 5)).cell? ⟨gl, j, none⟩ = some (.string (bs l1)) := cell_below ((Below.refl _ wr).alloc (Nat.le_refl _) _) hce (World.block_lt_of_cell? wr _ hce)
            have hbig : ¬ 9223372036854775807 < 1 + n := by omega
            go_region_law (refine step_text (w0 := w) hi hz0 hsz0 hz2 rfl (.tmp 31) (.tmp 42) rfl w.heap.size _ X.length (X.map sv) rfl (by exact HOWN.out _ _) (wr.heap.size + 1) (fieldB q :: l1) (by exact heap2 wr _ _) rfl (by omega) (by simp; omega) (by exact HBEL.out _ _) ?_; intro v3 w3 hown3 hbel3 hgr3)
            all_goals
              have hrow3 := row_stays (w := ((wr.alloc (.cells #[.int .u8 (48 + (q : Int))] 5)).alloc (.cells #[.string (bs (fieldB q :: l1))] 9)).drew) (by exact (HROW.out.alloc _).alloc _) hgr3 HAP.out
              go_wp2_with fail
              go_roundw
              case rel => exact ⟨j + 1, by omega, by go_num, by rw [HPS.out, List.length_append, List.map_append]; exact hown3, fun h => by rw [HPS.out] at h; simp at h, hrow3, hbel3⟩
              case measure => simp [intOf]; omega
        · rw [List.take_of_length_le (by omega)] at hown hnil
          have HOWN := hid hown
          have HNIL := hid hnil
          have hd : decide ((j : Int) < (L.length : Int)) = false := decide_eq_false (by omega)
          have hd2 : decide (j < L.length) = false := decide_eq_false (by omega)
          clear hown hnil hrl
          go_wp2_with fail
          go_roundw
          case rel => (first | exact ⟨q + 1, by omega, by omega, by go_num, by rw [HSU.out]; exact HOWN.out, by rw [HSU.out]; exact HNIL.out, hbel⟩ | ((repeat apply Exists.intro); refine ⟨?_, rfl⟩; exact ⟨q + 1, by omega, by omega, by go_num, by rw [HSU.out]; exact HOWN.out, by rw [HSU.out]; exact HNIL.out, hbel⟩))
          case measure => simp [intOf]; omega
    · have hq6 : q = 6 := by omega
      subst hq6
      go_wp2
      go_ret
      exact ⟨_, rfl, hown, hbel⟩
theorem choices_any : ∀ (n : Nat) (c : Nat) (w : World), n ≤ 6 → c ≤ 6 → Calls Try.prog 95 #[.int .i64 n, .int .i64 c] w fun e w' => ∃ v, e = .returned v ∧ Chosen w w' v (choiceP n c)
  | 0, c, w, _, _ => choices_zero c w
  | n + 1, c, w, hn, hc => choices_succ n (by omega) (fun c w hc => choices_any n c w (by omega) hc) c w hc
end Go.Proofs.Ytmjlcajcobbcgaa

namespace Go.Proofs.Ytmjlcajcobbcgaa
open Go.RowKit

/-- Does telling the fields of f apart make the set of n exact? -/
def exactP (A : List Al.St) (n : Nat) (f : List UInt8) : Bool := setOf (Al.leastP A f) n == setOf (Al.leastP A Al.allF) n
/-- The texts of fewer than k fields, in the document's order. -/
def cands (k : Nat) : List (List UInt8) := (List.range k).flatMap fun i => choiceP i 0
theorem cands_succ (k : Nat) : cands (k + 1) = cands k ++ choiceP k 0 := by
  unfold cands; rw [List.range_succ, List.flatMap_append]; simp
def refineF (A : List Al.St) (n : Nat) : List UInt8 := ((cands 6).find? (exactP A n)).getD Al.allF
def refineP (A : List Al.St) (l : List UInt8) : List UInt8 × Nat := if varN A l < 0 then ([], 5) else (refineF A (varN A l).toNat, 0)
theorem find_none_append {α : Type} {p : α → Bool} {X Y : List α} (h : X.find? p = none) : (X ++ Y).find? p = Y.find? p := by rw [List.find?_append, h]; rfl
theorem find_take {α : Type} {p : α → Bool} {Y : List α} {j : Nat} (h : j < Y.length) (h1 : (Y.take j).find? p = none) (h2 : p Y[j] = true) : Y.find? p = some Y[j] := by
  have e : Y.take j ++ Y[j] :: Y.drop (j + 1) = Y := by rw [List.getElem_cons_drop, List.take_append_drop]
  have h3 : (Y.take j ++ Y[j] :: Y.drop (j + 1)).find? p = some Y[j] := by
    rw [find_none_append h1]
    simp only [List.find?_cons, h2]
  rwa [e] at h3
theorem cell_keeps {w w' : World} {b o : Nat} {v : Value} (hb : Below w.heap.size w w') (h : w.cell? ⟨b, o, none⟩ = some v) : w'.cell? ⟨b, o, none⟩ = some v := cell_below hb h (World.block_lt_of_cell? w _ h)
theorem find_take_none {α : Type} {p : α → Bool} {Y : List α} {j : Nat} (h : j < Y.length) (h1 : (Y.take j).find? p = none) (h2 : p Y[j] = false) : (Y.take (j + 1)).find? p = none := by
  rw [List.take_succ_eq_append_getElem h, find_none_append h1]
  simp [h2]
theorem cands_prefix {k : Nat} (h : k ≤ 6) : ∃ Z, cands 6 = cands k ++ Z := by
  have : ∀ m, ∃ Z, cands (k + m) = cands k ++ Z := by
    intro m
    induction m with
    | zero => exact ⟨[], by simp⟩
    | succ m ih =>
      obtain ⟨Z, hZ⟩ := ih
      exact ⟨Z ++ choiceP (k + m) 0, by rw [← Nat.add_assoc, cands_succ, hZ, List.append_assoc]⟩
  have h2 := this (6 - k)
  rwa [show k + (6 - k) = 6 from by omega] at h2
theorem refineF_hit {A : List Al.St} {n k j : Nat} (hk : k < 6) (h0 : (cands k).find? (exactP A n) = none) (h : j < (choiceP k 0).length) (h1 : ((choiceP k 0).take j).find? (exactP A n) = none) (h2 : exactP A n (choiceP k 0)[j] = true) : refineF A n = (choiceP k 0)[j] := by
  obtain ⟨Z, hZ⟩ := cands_prefix (show k + 1 ≤ 6 by omega)
  unfold refineF
  rw [hZ, cands_succ, List.append_assoc, find_none_append h0, List.find?_append, find_take h h1 h2]
  rfl

def NoHit (A : List Al.St) (N : Nat) (X : List (List UInt8)) : Prop := X.find? (exactP A N) = none

set_option maxRecDepth 100000 in
set_option maxHeartbeats 2000000 in
theorem rRefine_any (b : Nat) (A : List Al.St) (l : List UInt8) (w : World) (hS : RSess w b A) (hA : Al.Good A) (hsm : A.length ≤ 24) :
    Calls Try.prog 73 #[.pointer (some ⟨b, 0, none⟩), .string (bs l)] w fun e w' => e = .returned (.tuple #[.string (bs (refineP A l).1), .int .i64 ((refineP A l).2 : Nat)]) ∧ Below w.heap.size w w' := by
  obtain ⟨v, hv, hr⟩ := hS.ex
  have hcv := cell_of_one hv
  have hlb := lt_of_block hv
  have HVA := hid (Variable_any A v l w hr (by omega))
  have hbd := varN_bd A l
  have HPP : Hid (refineP A l = if varN A l < 0 then ([], 5) else (refineF A (varN A l).toNat, 0)) := rfl
  generalize varN A l = n at *
  by_cases hn : n < 0
  · rw [if_pos hn] at HPP
    go_enter Try.func73, Try.ntmps73
    go_wp2_with (go_at_call 93; refine HVA.out.mono ?_; rintro e w' ⟨rfl, rfl⟩)
    go_ret2
    exact ⟨by rw [HPP.out]; rfl, Below.refl _ _⟩
  · rw [if_neg hn] at HPP
    obtain ⟨N, rfl⟩ := Int.eq_ofNat_of_zero_le (show 0 ≤ n by omega)
    rw [Int.toNat_natCast] at HPP
    have hN : N < 12 := by omega
    have HL1 := hid (fun f wx (h : RdS wx v (A.map Al.txt)) hf => Least_ok A v f wx hA.1 h (by omega) hf)
    have HL2 := hid (fun wx (h : RdS wx v (A.map Al.txt)) => Least_ok A v Al.allF wx hA.1 h (by omega) (by decide))
    rw [bs_all] at HL2
    have HR := hid hr
    have hbt := bs_toList
    clear hr hv hS hbd hn
    go_enter Try.func73, Try.ntmps73
    go_wp2_with (go_at_call 93; refine HVA.out.mono ?_; rintro e w' ⟨rfl, rfl⟩)
    refine (HL2.out _ HR.out).mono ?_
    rintro e w1 ⟨g, T, rfl, ht1, hT1, hb1⟩
    have HS1 := Set_any g T N w1 ht1 hN
    rw [setOf_congr (hT1 N)] at HS1
    obtain ⟨Y, hY⟩ : ∃ Y, setOf (Al.leastP A Al.allF) N = Y := ⟨_, rfl⟩
    rw [hY] at HS1
    have HYE := hid hY
    have HSE := hid HS1
    have HB1 := hid hb1
    clear hY
    clear HS1 ht1 hT1 hb1
    go_wp2_with fail
    refine HSE.out.mono ?_
    rintro e w2 ⟨rfl, hb2⟩
    have HB2 := hid (HB1.out.trans (hb2.mono HB1.out.size))
    clear hb2
    go_wp2_with fail
    go_loopw [8] (fun i wr => ∃ k : Nat, k ≤ 6 ∧ i = .int .i64 k ∧ NoHit A N (cands k) ∧ Below w'.heap.size w' wr) (fun i _ => 6 - (intOf i).toNat)
    case atStart => exact ⟨0, by omega, rfl, rfl, HB2.out⟩
    case round =>
      obtain ⟨k, hk, rfl, hno, hbel⟩ := hrel
      have HNO := hid hno
      have hsz := hbel.size
      clear hno
      by_cases hlt : k < 6
      · have HCH := hid (fun wx => choices_any k 0 wx (by omega) (by omega))
        have HCL := hid (choice_len k 0)
        have hct := Nat.le_trans (choice_count k 0) pow_le
        have HHIT := hid (fun j h h1 h2 => refineF_hit (A := A) (n := N) (j := j) hlt HNO.out h h1 h2)
        have HNX : Hid ((choiceP k 0).find? (exactP A N) = none → (cands (k + 1)).find? (exactP A N) = none) := fun h => by rw [cands_succ, find_none_append HNO.out, h]
        generalize choiceP k 0 = L at *
        have HBL := hid hbel
        clear hbel
        go_wp2_with fail
        refine (HCH.out _).mono ?_
        rintro e w3 ⟨vl, rfl, hL, hb3⟩
        obtain ⟨ao, cc, hve⟩ := ownsRow_slice hL
        subst hve
        have hB3 := HBL.out.trans (hb3.mono hsz)
        have HROW := hid hL
        have HB3 := hid hB3
        clear hL hb3 hB3
        go_wp2_with fail
        go_loopw [10] (fun i wr => ∃ j : Nat, j ≤ L.length ∧ i = .int .i64 j ∧ NoHit A N (L.take j) ∧ Below w3.heap.size w3 wr) (fun i _ => L.length - (intOf i).toNat)
        case atStart => exact ⟨0, Nat.zero_le _, rfl, rfl, Below.refl _ _⟩
        case round =>
          obtain ⟨j, hj, rfl, hnj, hbel⟩ := hrel
          have HNJ := hid hnj
          clear hnj
          by_cases hjl : j < L.length
          · rcases HROW.out.2 with ⟨_, h0⟩ | ⟨gl, capl, cur, hve, hgB, hgl, hrest⟩
            · omega
            · simp only [Value.slice.injEq, true_and] at hve
              obtain ⟨rfl, rfl⟩ := hve
              have hce := HROW.out.cells (g := gl) rfl j (sv L[j]) (by simp [hjl])
              rw [show (⟨gl, 0, none⟩ : Addr).add j = ⟨gl, j, none⟩ from by unfold Addr.add; split <;> simp_all] at hce
              have hcj := cell_below hbel hce (lt_of_block hgl)
              have hfl : L[j].length = k := HCL.out L[j] (List.getElem_mem hjl)
              have HH1 := hid (fun h => HHIT.out j hjl HNJ.out h)
              have HH2 := hid (fun h => find_take_none (p := exactP A N) hjl HNJ.out h)
              simp only [sv] at hcj
              generalize L[j] = f1 at *
              have HEX : Hid (exactP A N f1 = (setOf (Al.leastP A f1) N == Y)) := by unfold Hid exactP; rw [HYE.out]
              have hB4 := HB3.out.trans (hbel.mono HB3.out.size)
              have hcb := cell_below hB4 hcv hlb
              have HRW := hid (HR.out.below hB4)
              have HLF := hid (HL1.out f1 wr HRW.out (by omega))
              have HB4 := hid hB4
              have HBW := hid hbel
              clear hce hgl hrest cur hgB hbel hB4
              go_wp2_with fail
              go_region_held3 (fun w' => w'.cell? ⟨b, 0, none⟩ = some v ∧ w'.cell? ⟨gl, j, none⟩ = some (.string (bs f1))) (first | exact ⟨hcb, hcj⟩ | (go_split_ands; exact ⟨cell_keeps hbY (by assumption), cell_keeps hbY (by assumption)⟩) | (go_split_ands; exact ⟨cell_keeps hbX (by assumption), cell_keeps hbX (by assumption)⟩)) ((first | (go_at_call 94; refine (HL1.out f1 _ (by exact HRW.out) (by omega)).mono ?_; rintro e wA ⟨g2, T2, rfl, ht2, hT2, hbX⟩) | (go_at_call 31; refine (Set_any g2 T2 N _ ht2 hN).mono ?_; rintro e wB ⟨rfl, hbY⟩)))
              rw [setOf_congr (hT2 N)]
              have hB8 := HBW.out.drew.trans (hbX.mono HBW.out.drew.size)
              have hB9 := hB8.trans (hbY.mono hB8.size)
              have hcj9 := cell_keeps hbY (cell_keeps hbX hcj)
              have hB9F := HB3.out.trans (hB9.mono HB3.out.size)
              clear hB8 hbX hbY hT2 ht2 hcb hcj
              rw [HEX.out] at HH1 HH2
              generalize setOf (Al.leastP A f1) N = X at *
              cases hxy : (X == Y) with
              | true =>
                rw [hxy] at HH1
                have HRF := hid (HH1.out rfl)
                go_wp2_with fail
                go_ret2
                exact ⟨by rw [HPP.out, HRF.out]; rfl, hB9F⟩
              | false =>
                rw [hxy] at HH2
                have HNN := hid (HH2.out rfl)
                go_wp2_with fail
                go_roundw
                case rel => exact ⟨j + 1, by omega, by go_num, HNN.out, hB9⟩
                case measure => simp [intOf]; omega
          · rw [List.take_of_length_le (by omega)] at HNJ
            have HNN := hid (HNX.out HNJ.out)
            have hd : decide ((j : Int) < (L.length : Int)) = false := decide_eq_false (by omega)
            have hd2 : decide (j < L.length) = false := decide_eq_false (by omega)
            have hB4 := HB3.out.trans (hbel.mono HB3.out.size)
            clear hbel
            go_wp2_with fail
            go_roundw
            case rel => (first | exact ⟨k + 1, by omega, by go_num, HNN.out, hB4⟩ | ((repeat apply Exists.intro); refine ⟨?_, rfl⟩; exact ⟨k + 1, by omega, by go_num, HNN.out, hB4⟩))
            case measure => simp [intOf]; omega
      · have hk6 : k = 6 := by omega
        subst hk6
        have HRF : Hid (refineF A N = Al.allF) := by unfold Hid refineF; rw [HNO.out]; rfl
        go_wp2_with fail
        go_ret2
        exact ⟨by rw [HPP.out, HRF.out]; rfl, hbel⟩
end Go.Proofs.Ytmjlcajcobbcgaa

namespace Go.Proofs.Ytmjlcajcobbcgaa
open Go.RowKit

/-! The fewest fields. -/
theorem all_fields' : fieldOk Al.allF = true := by decide
/-- A rising text of fields from c on. -/
def Rises : Nat → List UInt8 → Prop
  | _, [] => True
  | c, d :: f => ∃ k, c ≤ k ∧ k < 6 ∧ d = fieldB k ∧ Rises (k + 1) f
theorem mem_choice : ∀ (f : List UInt8) (c : Nat), Rises c f → f ∈ choiceP f.length c
  | [], _, _ => by simp [choiceP]
  | d :: f, c, ⟨k, h1, h2, hd, h3⟩ => by
    subst hd
    have ih := mem_choice f (k + 1) h3
    simp only [List.length_cons, choiceP, List.mem_flatMap, List.mem_map, List.mem_range'_1]
    exact ⟨k, ⟨h1, by omega⟩, f, ih, rfl⟩
theorem rises_of_choice : ∀ (n c : Nat) (f : List UInt8), f ∈ choiceP n c → Rises c f
  | 0, c, f, h => by simp [choiceP] at h; subst h; trivial
  | n + 1, c, f, h => by
    simp only [choiceP, List.mem_flatMap, List.mem_map, List.mem_range'_1] at h
    obtain ⟨k, hk, m, hm, rfl⟩ := h
    exact ⟨k, hk.1, by omega, rfl, rises_of_choice n (k + 1) m hm⟩
theorem bt_zero (d : UInt8) (f : List UInt8) : Al.bt (d :: f) 0 = d.toNat := rfl
theorem bt_succ (d : UInt8) (f : List UInt8) (i : Nat) : Al.bt (d :: f) (i + 1) = Al.bt f i := rfl
theorem rises_of_at : ∀ (f : List UInt8) (c : Nat), (∀ i, i < f.length → Al.fB (Al.bt f i) = true) → (∀ i, i + 1 < f.length → Al.bt f i < Al.bt f (i + 1)) → (0 < f.length → 48 + c ≤ Al.bt f 0) → Rises c f
  | [], _, _, _, _ => trivial
  | d :: f, c, h1, h2, h3 => by
    have hd := h1 0 (by simp)
    rw [bt_zero] at hd
    have hb := f_bd hd
    have h3' := h3 (by simp)
    rw [bt_zero] at h3'
    refine ⟨d.toNat - 48, by omega, by omega, ?_, ?_⟩
    · refine UInt8.toNat_inj.1 ?_
      rw [fieldB_toNat (by omega)]; omega
    · refine rises_of_at f _ (fun i hi => ?_) (fun i hi => ?_) (fun hp => ?_)
      · have := h1 (i + 1) (by simpa using hi); rwa [bt_succ] at this
      · have := h2 (i + 1) (by simpa using hi); rwa [bt_succ, bt_succ] at this
      · have := h2 0 (by simpa using hp)
        rw [bt_zero, bt_succ] at this
        omega
theorem rises_of_ok {f : List UInt8} (h : fieldOk f = true) : Rises 0 f := by
  have ha := fieldOk_at h
  refine rises_of_at f 0 (fun i hi => ?_) (fun i hi => ?_) (fun hp => ?_)
  · have := ha i hi
    simp only [okAt, Bool.and_eq_true] at this
    exact this.1
  · have := ha (i + 1) hi
    simp [okAt] at this
    exact this.2
  · have := fieldOk_ge h 0 hp
    omega
theorem at_of_rises : ∀ (f : List UInt8) (c : Nat), Rises c f → (∀ i, i < f.length → Al.fB (Al.bt f i) = true) ∧ (∀ i, i + 1 < f.length → Al.bt f i < Al.bt f (i + 1)) ∧ (0 < f.length → 48 + c ≤ Al.bt f 0)
  | [], _, _ => ⟨fun i hi => by simp at hi, fun i hi => by simp at hi, fun h => by simp at h⟩
  | d :: f, c, ⟨k, h1, h2, hd, h3⟩ => by
    subst hd
    obtain ⟨i1, i2, i3⟩ := at_of_rises f (k + 1) h3
    have e := fieldB_toNat h2
    refine ⟨fun i hi => ?_, fun i hi => ?_, fun _ => by rw [bt_zero, e]; omega⟩
    · cases i with
      | zero => rw [bt_zero, e]; simp [Al.fB]; omega
      | succ i => rw [bt_succ]; exact i1 i (by simpa using hi)
    · cases i with
      | zero =>
        rw [bt_zero, bt_succ, e]
        have := i3 (by simpa using hi)
        omega
      | succ i => rw [bt_succ, bt_succ]; exact i2 i (by simpa using hi)
theorem ok_of_rises {f : List UInt8} {c : Nat} (h : Rises c f) : fieldOk f = true := by
  obtain ⟨h1, h2, _⟩ := at_of_rises f c h
  unfold fieldOk
  rw [List.all_eq_true]
  intro i hi
  have hi : i < f.length := by simpa using hi
  unfold okAt
  rw [h1 i hi, Bool.true_and]
  cases i with
  | zero => rfl
  | succ i => have := h2 i hi; simp; exact this
theorem lt_cons_same {d : UInt8} {a b : List UInt8} (h : Al.lt a b = true) : Al.lt (d :: a) (d :: b) = true := by
  have h' : Op.bytesLess a b = true := h
  simp [Al.lt, Op.bytesLess, h']
theorem lt_cons_less {d e : UInt8} {a b : List UInt8} (h : d.toNat < e.toNat) : Al.lt (d :: a) (e :: b) = true := by
  have h' : d < e := UInt8.lt_iff_toNat_lt.2 h
  simp [Al.lt, Op.bytesLess, h']
/-- The texts of a length rise. -/
theorem choice_sorted : ∀ (n c : Nat), (choiceP n c).Pairwise fun a b => Al.lt a b = true
  | 0, _ => by simp [choiceP]
  | n + 1, c => by
    unfold choiceP
    rw [List.pairwise_flatMap]
    refine ⟨fun k _ => ?_, ?_⟩
    · rw [List.pairwise_map]
      exact (choice_sorted n (k + 1)).imp fun h => lt_cons_same h
    · refine List.Pairwise.imp_of_mem ?_ (List.pairwise_lt_range' (s := c) (n := 6 - c))
      intro k k' hk hk' hlt x hx y hy
      obtain ⟨a, _, rfl⟩ := List.mem_map.1 hx
      obtain ⟨b, _, rfl⟩ := List.mem_map.1 hy
      rw [List.mem_range'_1] at hk hk'
      exact lt_cons_less (by rw [fieldB_toNat (by omega), fieldB_toNat (by omega)]; omega)
def Ahead (a b : List UInt8) : Prop := a.length < b.length ∨ (a.length = b.length ∧ Al.lt a b = true)
theorem cands_sorted (k : Nat) : (cands k).Pairwise Ahead := by
  unfold cands
  rw [List.pairwise_flatMap]
  refine ⟨fun i _ => ?_, ?_⟩
  · refine List.Pairwise.imp_of_mem ?_ (choice_sorted i 0)
    intro a b ha hb h
    exact .inr ⟨by rw [choice_len i 0 a ha, choice_len i 0 b hb], h⟩
  · refine List.Pairwise.imp_of_mem ?_ List.pairwise_lt_range
    intro i j _ _ hlt x hx y hy
    exact .inl (by rw [choice_len i 0 x hx, choice_len j 0 y hy]; exact hlt)
theorem find_before {α : Type} {p : α → Bool} {R : α → α → Prop} : ∀ {L : List α} {x r : α}, L.Pairwise R → L.find? p = some r → x ∈ L → p x = true → x = r ∨ R r x
  | [], _, _, _, h, _, _ => by simp at h
  | a :: L, x, r, hs, hf, hx, hp => by
    rw [List.pairwise_cons] at hs
    cases e : p a with
    | true =>
      rw [List.find?_cons, e] at hf
      simp only [Option.some.injEq] at hf
      subst hf
      rcases List.mem_cons.1 hx with rfl | hx
      · exact .inl rfl
      · exact .inr (hs.1 x hx)
    | false =>
      rw [List.find?_cons, e] at hf
      rcases List.mem_cons.1 hx with rfl | hx
      · rw [hp] at e; cases e
      · exact find_before hs.2 hf hx hp
theorem ahead_irrefl (a : List UInt8) : ¬ Ahead a a := by
  rintro (h | ⟨_, h⟩)
  · omega
  · rw [Al.lt_irrefl] at h; cases h
theorem ahead_asymm {a b : List UInt8} (h : Ahead a b) : ¬ Ahead b a := by
  rintro (k | ⟨k1, k2⟩)
  · rcases h with h | ⟨h, _⟩ <;> omega
  · rcases h with h | ⟨_, h⟩
    · omega
    · rw [Al.lt_asymm h] at k2; cases k2
theorem choice_six : choiceP 6 0 = [Al.allF] := by decide
theorem exact_all (A : List Al.St) (n : Nat) : exactP A n Al.allF = true := by unfold exactP; simp
/-- Refine's answer: a text of fields, exact, and none that is exact is ahead of it. -/
theorem refineF_ok (A : List Al.St) (n : Nat) : fieldOk (refineF A n) = true ∧ exactP A n (refineF A n) = true := by
  unfold refineF
  cases h : (cands 6).find? (exactP A n) with
  | none => exact ⟨all_fields', exact_all A n⟩
  | some r =>
    have h1 := List.find?_some h
    have h2 := List.mem_of_find?_eq_some h
    unfold cands at h2
    obtain ⟨i, _, hi⟩ := List.mem_flatMap.1 h2
    exact ⟨ok_of_rises (rises_of_choice i 0 r hi), h1⟩
theorem refineF_few {A : List Al.St} {n : Nat} {f : List UInt8} (hf : fieldOk f = true) (he : exactP A n f = true) : ¬ Ahead f (refineF A n) := by
  have hl := fieldOk_len hf
  have hm := mem_choice f 0 (rises_of_ok hf)
  by_cases h6 : f.length < 6
  · have hc : f ∈ cands 6 := by
      unfold cands
      exact List.mem_flatMap.2 ⟨f.length, by simpa using h6, hm⟩
    unfold refineF
    cases h : (cands 6).find? (exactP A n) with
    | none =>
      have := List.find?_eq_none.1 h f hc
      exact absurd he this
    | some r =>
      rcases find_before (cands_sorted 6) h hc he with rfl | h
      · exact ahead_irrefl _
      · exact ahead_asymm h
  · have e6 : f.length = 6 := by omega
    rw [e6, choice_six] at hm
    simp only [List.mem_singleton] at hm
    subst hm
    unfold refineF
    cases h : (cands 6).find? (exactP A n) with
    | none => exact ahead_irrefl _
    | some r =>
      have h2 := List.mem_of_find?_eq_some h
      unfold cands at h2
      obtain ⟨i, hi6, hi⟩ := List.mem_flatMap.1 h2
      have hlen := choice_len i 0 r hi
      have hi6 : i < 6 := by simpa using hi6
      rintro (k | ⟨k, _⟩)
      · simp only [Option.getD_some] at k
        have : Al.allF.length = 6 := rfl
        omega
      · simp only [Option.getD_some] at k
        have : Al.allF.length = 6 := rfl
        omega
end Go.Proofs.Ytmjlcajcobbcgaa

namespace Go.Proofs.Ytmjlcajcobbcgaa
open Go.RowKit

/-! The text of fields of a number. -/
def ftTo (n k : Nat) : List UInt8 := ((List.range k).filter fun i => n.testBit i).map fieldB
def ftP (n : Nat) : List UInt8 := ftTo n 6
theorem ftTo_succ (n k : Nat) : ftTo n (k + 1) = ftTo n k ++ (if n.testBit k = true then [fieldB k] else []) := by
  unfold ftTo
  rw [List.range_succ, List.filter_append, List.map_append]
  by_cases h : n.testBit k = true
  · simp [h]
  · simp [h]
theorem ftTo_len (n k : Nat) : (ftTo n k).length ≤ k := by
  unfold ftTo
  rw [List.length_map]; have := List.length_filter_le (fun o => n.testBit o) (List.range k); simpa using this
set_option maxRecDepth 100000 in
theorem ft_cover : ((List.range 7).all fun i => (choiceP i 0).all fun f => (List.range 64).any fun j => ftP j == f) = true := by decide +kernel
set_option maxRecDepth 100000 in
theorem ft_okB : ((List.range 64).all fun j => fieldOk (ftP j)) = true := by decide +kernel
theorem ft_ok {j : Nat} (h : j < 64) : fieldOk (ftP j) = true := List.all_eq_true.1 ft_okB j (List.mem_range.2 h)
theorem ft_all {f : List UInt8} (h : fieldOk f = true) : ∃ j, j < 64 ∧ ftP j = f := by
  have hl := fieldOk_len h
  have hm := mem_choice f 0 (rises_of_ok h)
  have h1 := List.all_eq_true.1 ft_cover f.length (List.mem_range.2 (by omega))
  have h2 := List.all_eq_true.1 h1 f hm
  obtain ⟨j, hj, e⟩ := List.any_eq_true.1 h2
  exact ⟨j, List.mem_range.1 hj, beq_iff_eq.1 e⟩
def aheadB (a b : List UInt8) : Bool := if a.length = b.length then Al.lt a b else decide (a.length < b.length)
theorem ahead_iff (a b : List UInt8) : aheadB a b = true ↔ Ahead a b := by
  unfold aheadB Ahead
  by_cases h : a.length = b.length
  · rw [if_pos h]
    exact ⟨fun k => .inr ⟨h, k⟩, fun k => k.elim (fun k => by omega) (·.2)⟩
  · rw [if_neg h, decide_eq_true_eq]
    exact ⟨.inl, fun k => k.elim id (fun k => absurd k.1 h)⟩
theorem ahead_trans {a b c : List UInt8} (h : Ahead a b) (k : Ahead b c) : Ahead a c := by
  rcases h with h | ⟨h1, h2⟩ <;> rcases k with k | ⟨k1, k2⟩
  · exact .inl (by omega)
  · exact .inl (by omega)
  · exact .inl (by omega)
  · exact .inr ⟨by omega, Al.lt_trans h2 k2⟩
theorem ahead_eq {a b : List UInt8} (h : ¬ Ahead a b) (k : ¬ Ahead b a) : a = b := by
  apply Classical.byContradiction
  intro hne
  unfold Ahead at h k
  simp only [not_or, not_and] at h k
  have hl : a.length = b.length := by omega
  have h1 : Al.lt a b = false := by simpa using h.2 hl
  exact k.2 hl.symm (Al.lt_total hne h1)
/-- What holds at the head of each round of fewestFields. -/
def BestTo (A : List Al.St) (n k : Nat) (b : List UInt8) : Prop := fieldOk b = true ∧ exactP A n b = true ∧ ∀ j, j < k → exactP A n (ftP j) = true → ¬ Ahead (ftP j) b
theorem best_zero (A : List Al.St) (n : Nat) : BestTo A n 0 Al.allF := ⟨all_fields', exact_all A n, fun j h => by omega⟩
theorem best_skip {A : List Al.St} {n k : Nat} {b : List UInt8} (h : BestTo A n k b) (hs : exactP A n (ftP k) = false ∨ ¬ Ahead (ftP k) b) : BestTo A n (k + 1) b := by
  refine ⟨h.1, h.2.1, fun j hj he => ?_⟩
  by_cases e : j = k
  · subst e
    rcases hs with hs | hs
    · rw [hs] at he; cases he
    · exact hs
  · exact h.2.2 j (by omega) he
theorem best_take {A : List Al.St} {n k : Nat} {b : List UInt8} (h : BestTo A n k b) (hk : k < 64) (ha : Ahead (ftP k) b) (he : exactP A n (ftP k) = true) : BestTo A n (k + 1) (ftP k) := by
  refine ⟨ft_ok hk, he, fun j hj he2 hb => ?_⟩
  by_cases e : j = k
  · subst e; exact ahead_irrefl _ hb
  · exact h.2.2 j (by omega) he2 (ahead_trans hb ha)
theorem best_end {A : List Al.St} {n : Nat} {b : List UInt8} (h : BestTo A n 64 b) : b = refineF A n := by
  obtain ⟨h1, h2⟩ := refineF_ok A n
  obtain ⟨j, hj, e⟩ := ft_all h1
  exact ahead_eq (refineF_few h.1 h.2.1) (by rw [← e]; exact h.2.2 j hj (by rw [e]; exact h2))
end Go.Proofs.Ytmjlcajcobbcgaa
