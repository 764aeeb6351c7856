import Derived.Test.YtljafkdaljkanaaPure
import Derived.WalkKit
import Derived.WalkSpells
import Derived.WalkLawsBesides
import Derived.Laws.AppendOwn
namespace Go.Proofs.Ytljafkdaljkanaa
open Go.RowKit

theorem hid {p : Prop} (h : p) : Hid p := h

/-- 'out = append(out, x)', x boxed in a new block: the slice owns one element more; below the base nothing has turned. -/
theorem append_new {P : Program} {ops : Array Oper} {rest : List Oper} {o : Oper} {a : Act} {Q : Exit → Act → World → Prop} {w0 wb : World} (hgd : o.guard = none) (s x : Operand) (t : TypeId)
    (ho : o.op = .call { callee := .builtin .append, args := #[s, x], argTypes := #[t, t] })
    (base : Nat) (e : TypeId) (i : TypeInfo) (z : Value) (size bytes : Nat) (ht : P.underlying t = some (.slice e)) (hi : P.info? e = some i) (hz : i.zero = some z)
    (hsize : i.size = size) (hby : i.bytes = bytes) (hzs : z.cells.size = size) (hsz : 0 < size)
    (v : Value) (n : Nat) (xs : List Value) (hs : a.eval s = v) (hown : wb.ownsRow base e size v n xs) (cur : Array Value) (hcur : cur.size = size) (h1 : ∀ u ∈ cur.toList, u.oneCell' = true)
    (hx : a.eval x = .slice (some ⟨wb.heap.size, 0, none⟩) 1 1) (hn : n + 1 ≤ 2000000) (hb : bytes ≤ 1000) (hbase : base ≤ wb.heap.size) (hbel : Below base w0 wb)
    (h : ∀ v' w', w'.ownsRow base e size v' (n + 1) (xs ++ cur.toList) → Below base w0 w' → wpList P ops Q rest (a.put o.dst v') w') : wpList P ops Q (o :: rest) a (wb.alloc (.cells cur e)) := by
  refine wpList_append_own _ hgd s x t ho base e i z size bytes ht hi hz hsize hby hzs hsz v n xs hs (hown.alloc _) ⟨wb.heap.size, 0, none⟩ 1 1 cur.toList hx (by simpa using hcur) ?_ h1 ?_ ?_ ?_ ?_
  · intro j u hj
    have hadd : (⟨wb.heap.size, 0, none⟩ : Addr).add j = ⟨wb.heap.size, j, none⟩ := by unfold Addr.add; split <;> simp_all
    rw [hadd, cell_of_row (wb.alloc (.cells cur e)) wb.heap.size j cur e (0, 0) (heap_alloc_new wb _)]
    simpa using hj
  · simp only [maxLen]; omega
  · exact Nat.le_trans (Nat.mul_le_mul hn hb) (by decide)
  · simp; omega
  · intro v' w' h2 h3 _
    refine h v' w' h2 ((hbel.alloc hbase _).grown h3 (by simp; omega) ?_)
    intro k hk
    exact (hown.lt k hk).1

theorem heap2 (w : World) (O C : Obj) : ((w.alloc O).alloc C).heap[w.heap.size + 1]? = some C := by
  have := heap_alloc_new (w.alloc O) C
  rwa [World.size_alloc] at this
/-- The same, the new element's block g anywhere in the world. -/
theorem append_at {P : Program} {ops : Array Oper} {rest : List Oper} {o : Oper} {a : Act} {Q : Exit → Act → World → Prop} {w0 wx : World} (hgd : o.guard = none) (s x : Operand) (t : TypeId)
    (ho : o.op = .call { callee := .builtin .append, args := #[s, x], argTypes := #[t, t] })
    (base : Nat) (e : TypeId) (i : TypeInfo) (z : Value) (size bytes : Nat) (ht : P.underlying t = some (.slice e)) (hi : P.info? e = some i) (hz : i.zero = some z)
    (hsize : i.size = size) (hby : i.bytes = bytes) (hzs : z.cells.size = size) (hsz : 0 < size)
    (v : Value) (n : Nat) (xs : List Value) (hs : a.eval s = v) (hown : wx.ownsRow base e size v n xs) (g : Nat) (cur : Array Value) (hg : wx.heap[g]? = some (.cells cur e (0, 0))) (hcur : cur.size = size) (h1 : ∀ u ∈ cur.toList, u.oneCell' = true)
    (hx : a.eval x = .slice (some ⟨g, 0, none⟩) 1 1) (hn : n + 1 ≤ 2000000) (hb : bytes ≤ 1000) (hbase : base ≤ wx.heap.size) (hbel : Below base w0 wx)
    (h : ∀ v' w', w'.ownsRow base e size v' (n + 1) (xs ++ cur.toList) → Below base w0 w' → wpList P ops Q rest (a.put o.dst v') w') : wpList P ops Q (o :: rest) a wx := by
  refine wpList_append_own _ hgd s x t ho base e i z size bytes ht hi hz hsize hby hzs hsz v n xs hs hown ⟨g, 0, none⟩ 1 1 cur.toList hx (by simpa using hcur) ?_ h1 ?_ ?_ ?_ ?_
  · intro j u hj
    have hadd : (⟨g, 0, none⟩ : Addr).add j = ⟨g, j, none⟩ := by unfold Addr.add; split <;> simp_all
    rw [hadd, cell_of_row wx g j cur e (0, 0) hg]
    simpa using hj
  · simp only [maxLen]; omega
  · exact Nat.le_trans (Nat.mul_le_mul hn hb) (by decide)
  · exact hbase
  · intro v' w' h2 h3 _
    refine h v' w' h2 (hbel.grown h3 hbase ?_)
    intro k hk
    exact (hown.lt k hk).1
theorem block_setCell {w : World} {b j : Nat} {cur : Array Value} {t : TypeId} (v : Value) (h : w.heap[b]? = some (.cells cur t (0, 0))) : (w.setCell ⟨b, j, none⟩ v).heap[b]? = some (.cells (cur.setIfInBounds j v) t (0, 0)) := by
  have hlt : b < w.heap.size := (Array.getElem?_eq_some_iff.1 h).1
  have h' : w.heap[b] = .cells cur t (0, 0) := by simpa [Array.getElem?_eq_getElem hlt] using h
  show (w.heap.modify b _)[b]? = _
  rw [Array.getElem?_eq_getElem (by simpa using hlt), Array.getElem_modify_self, h']
  rfl
theorem block_cell {w : World} {b j : Nat} {cur : Array Value} {t : TypeId} (h : w.heap[b]? = some (.cells cur t (0, 0))) : w.cell? ⟨b, j, none⟩ = cur[j]? := cell_of_row w b j cur t (0, 0) h
theorem block_free {w : World} {b j : Nat} {cur : Array Value} {t : TypeId} (h : w.heap[b]? = some (.cells cur t (0, 0))) : w.frozen? ⟨b, j, none⟩ = false := by simp [World.frozen?, h]

theorem below_of_grown {B b : Nat} {w0 w w' : World} (h : Below B w0 w) (hg : w.grownBy w' (some b)) (hB : B ≤ w.heap.size) (hb : B ≤ b) : Below B w0 w' := h.grown hg hB (fun k e => by simp at e; omega)
theorem cell_below {w w' : World} {B b o : Nat} {v : Value} (hb : Below B w w') (h : w.cell? ⟨b, o, none⟩ = some v) (hlt : b < B) : w'.cell? ⟨b, o, none⟩ = some v := (hb.cell (p := ⟨b, o, none⟩) hlt).trans h
end Go.Proofs.Ytljafkdaljkanaa
