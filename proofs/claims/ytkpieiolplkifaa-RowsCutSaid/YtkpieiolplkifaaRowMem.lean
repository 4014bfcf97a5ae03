/- A row's writer and its reader in memory; parts of slices of bytes; rows boxed. -/
import Derived.Test.YtkpieiolplkifaaRowMath2
import Derived.Test.YtkpieiolplkifaaMemValues
import Derived.Test.YtkpieiolplkifaaMemText
import Derived.Test.YtkpieiolplkifaaRightAny
namespace Go.Proofs.Ytkpieiolplkifaa.Rw
open Go.RowKit Go.Proofs.Ytkpieiolplkifaa.Mem Go.Proofs.Ytkpieiolplkifaa.Right
set_option linter.unusedVariables false

/-- Block g is a writer, whose bytes v read as l, and lie behind it; below it nothing has turned since W. -/
def Wr (W w : World) (g : Nat) (v : Value) (l : List UInt8) : Prop :=
  w.heap[g]? = some (.cells #[v] 45 (0, 0)) ∧ w.ownsRow (g + 1) 5 1 v l.length (bys l) ∧ Below g W w
/-- Nothing has turned but block g and the row of v; v' is that row, or a newer one. -/
def Wrote (w w' : World) (g : Nat) (v v' : Value) : Prop :=
  w.heap.size ≤ w'.heap.size ∧ (∀ k, k < w.heap.size → k ≠ g → v.ownBlock ≠ some k → w'.heap[k]? = w.heap[k]?) ∧ (v'.ownBlock = v.ownBlock ∨ ∃ k, v'.ownBlock = some k ∧ w.heap.size ≤ k)
theorem Wrote.refl (w : World) (g : Nat) (v : Value) : Wrote w w g v v := ⟨Nat.le_refl _, fun _ _ _ _ => rfl, .inl rfl⟩
theorem Wrote.trans {a b c : World} {g : Nat} {u v x : Value} (h : Wrote a b g u v) (k : Wrote b c g v x) : Wrote a c g u x := by
  obtain ⟨h1, h2, h3⟩ := h
  obtain ⟨k1, k2, k3⟩ := k
  refine ⟨Nat.le_trans h1 k1, fun j hj hg hu => ?_, ?_⟩
  · rw [k2 j (by omega) hg ?_, h2 j hj hg hu]
    rcases h3 with e | ⟨y, e, hy⟩
    · rw [e]; exact hu
    · rw [e]; intro e2; injection e2 with e2; omega
  · rcases k3 with e | ⟨y, e, hy⟩
    · rcases h3 with e3 | ⟨z, e3, hz⟩
      · exact .inl (e.trans e3)
      · exact .inr ⟨z, e.trans e3, hz⟩
    · exact .inr ⟨y, e, by omega⟩
theorem Wrote.cell {w w' : World} {g : Nat} {v v' : Value} (h : Wrote w w' g v v') {b o : Nat} {x : Value} (hx : w.cell? ⟨b, o, none⟩ = some x) (hg : b ≠ g) (hv : v.ownBlock ≠ some b) : w'.cell? ⟨b, o, none⟩ = some x :=
  (World.cell?_of_block (w := w) (h.2.1 b (cell_lt hx) hg hv)).trans hx
theorem Wrote.ne {w w' : World} {g : Nat} {v v' : Value} (h : Wrote w w' g v v') {b : Nat} (hb : b < w.heap.size) (hv : v.ownBlock ≠ some b) : v'.ownBlock ≠ some b := by
  rcases h.2.2 with e | ⟨y, e, hy⟩
  · rw [e]; exact hv
  · rw [e]; intro e2; injection e2 with e2; omega
theorem Wr.cells {W w : World} {g : Nat} {v : Value} {l : List UInt8} (h : Wr W w g v l) : w.cell? ⟨g, 0, none⟩ = some v ∧ w.frozen? ⟨g, 0, none⟩ = false := by
  obtain ⟨h1, _⟩ := h
  refine ⟨?_, ?_⟩ <;> simp [World.cell?, World.frozen?, h1]
theorem Wr.lt {W w : World} {g : Nat} {v : Value} {l : List UInt8} (h : Wr W w g v l) : g < w.heap.size := by
  rcases Nat.lt_or_ge g w.heap.size with h2 | h2
  · exact h2
  · have := h.1; rw [Array.getElem?_eq_none h2] at this; cases this
theorem Wr.made {W w : World} {g : Nat} {v : Value} {l : List UInt8} (h : Wr W w g v l) : Made (g + 1) w v l w := ⟨h.2.1, Below.refl _ _, h.lt⟩
theorem Made.writer {W w w1 : World} {g : Nat} {v v1 : Value} {l l1 : List UInt8} (h : Wr W w g v l) (m : Made (g + 1) w v1 l1 w1) : w1.cell? ⟨g, 0, none⟩ = some v ∧ w1.frozen? ⟨g, 0, none⟩ = false := by
  have h1 := (m.2.1.block g (by omega)).trans h.1
  refine ⟨?_, ?_⟩ <;> simp [World.cell?, World.frozen?, h1]
theorem own_set {w : World} {base : Nat} {e : TypeId} {v x : Value} {n g : Nat} {xs : List Value} (h : w.ownsRow base e 1 v n xs) (hg : g < base) : (w.setCell ⟨g, 0, none⟩ x).ownsRow base e 1 v n xs := by
  obtain ⟨h1, h2⟩ := h
  refine ⟨h1, ?_⟩
  rcases h2 with h2 | ⟨k, cap, cur, hv, hb, hh, rest⟩
  · exact .inl h2
  · refine .inr ⟨k, cap, cur, hv, hb, ?_, rest⟩
    show (w.heap.modify g _)[k]? = _
    rw [Array.getElem?_modify, if_neg (by omega)]
    exact hh
/-- The writer's bytes are stored. -/
theorem Wr.put {W w w1 : World} {g : Nat} {v v1 : Value} {l l1 : List UInt8} (h : Wr W w g v l) (m : Made (g + 1) w v1 l1 w1) : Wr W (w1.setCell ⟨g, 0, none⟩ v1) g v1 l1 := by
  have h1 := (m.2.1.block g (by omega)).trans h.1
  refine ⟨?_, own_set m.1 (by omega), ?_⟩
  · show (w1.heap.modify g _)[g]? = _
    rw [Array.getElem?_modify, h1]
    simp
  · exact (h.2.2.trans (m.2.1.mono (by omega))).setCell (p := ⟨g, 0, none⟩) (Nat.le_refl _) _
theorem Wrote.put {w w1 : World} {g : Nat} {v v1 x : Value} (h : w.grownBy w1 v.ownBlock) (e : v1.ownBlock = v.ownBlock ∨ ∃ k, v1.ownBlock = some k ∧ w.heap.size ≤ k) : Wrote w (w1.setCell ⟨g, 0, none⟩ x) g v v1 := by
  refine ⟨by simp [World.setCell]; exact h.size, fun k hk hg hv => ?_, e⟩
  show (w1.heap.modify g _)[k]? = _
  rw [Array.getElem?_modify, if_neg (by omega)]
  exact h.block k hk (fun e2 => hv e2.symm)
/-- Other memory is made; what is there stays. -/
theorem Wr.below {W w w' : World} {g : Nat} {v : Value} {l : List UInt8} (h : Wr W w g v l) (hb : Below w.heap.size w w') : Wr W w' g v l :=
  ⟨(hb.block g h.lt).trans h.1, (h.made.below hb).1, h.2.2.trans (hb.mono (Nat.le_of_lt h.lt))⟩
theorem Wrote.below {w w' : World} {g : Nat} {v : Value} (hb : Below w.heap.size w w') : Wrote w w' g v v := ⟨hb.size, fun k hk _ _ => hb.block k hk, .inl rfl⟩

/-- Where a part of a slice of bytes lies. -/
theorem row_part {A : Option Addr} {n c k : Nat} {w : World} {B : Nat} {l : List UInt8} (h : Row w B A (bys l)) (hl : l.length = n) (hk : k ≤ n) (hc : n ≤ c) :
    (c = k → Row w B A (bys (l.drop k))) ∧ (¬ c = k → Row w B (A.map (·.add k)) (bys (l.drop k))) := by
  refine ⟨fun e => by rw [List.drop_eq_nil_of_le (by omega)]; exact Row.none_, fun h0 => ?_⟩
  cases l with
  | nil => simp; exact Row.none_
  | cons x t =>
    obtain ⟨b, o, e, _⟩ := h 0 (.int .u8 (x.toNat : Int)) rfl
    subst e
    have := Row.drop (k := k) h
    have e4 : (⟨b, o, none⟩ : Addr).add k = ⟨b, o + k, none⟩ := by unfold Addr.add; split <;> simp_all
    simp only [Option.map_some, e4]
    unfold bys at this ⊢
    rwa [List.map_drop]
theorem row_take {A : Option Addr} {k : Nat} {w : World} {B : Nat} {l : List UInt8} (h : Row w B A (bys l)) : Row w B A (bys (l.take k)) := by
  unfold bys; rw [List.map_take]; exact Row.take h

/-- Block g is a reader that stands at σ: bytes that lie below B are left, or there was an error. -/
def Rd (B : Nat) (w : World) (g : Nat) (σ : Got Unit) : Prop :=
  B ≤ g ∧ ∃ A n c e, w.heap[g]? = some (.cells #[.slice A n c, .int .i64 e] 58 (0, 0)) ∧ n ≤ c ∧ c ≤ 9223372036854775807 ∧
    ((∃ l, σ = .ok () l ∧ e = 0 ∧ Row w B A (bys l) ∧ l.length = n) ∨ (σ = .bad e ∧ ¬ e = 0))
theorem rd_cells {w : World} {g : Nat} {x y : Value} {t : TypeId} (h : w.heap[g]? = some (.cells #[x, y] t (0, 0))) :
    w.cell? ⟨g, 0, none⟩ = some x ∧ w.cell? ⟨g, 1, none⟩ = some y ∧ w.frozen? ⟨g, 0, none⟩ = false ∧ w.frozen? ⟨g, 1, none⟩ = false := by
  refine ⟨?_, ?_, ?_, ?_⟩ <;> simp [World.cell?, World.frozen?, h]
theorem blk_lt {w : World} {g : Nat} {o : Obj} (h : w.heap[g]? = some o) : g < w.heap.size := by
  rcases Nat.lt_or_ge g w.heap.size with h2 | h2
  · exact h2
  · rw [Array.getElem?_eq_none h2] at h; cases h
theorem Rd.lt {B : Nat} {w : World} {g : Nat} {σ : Got Unit} (h : Rd B w g σ) : g < w.heap.size := by
  obtain ⟨_, A, n, c, e, hh, _⟩ := h
  exact blk_lt hh
theorem grown_refl (w : World) (r : Option Nat) : w.grownBy w r := ⟨rfl, rfl, rfl, Nat.le_refl _, fun _ _ _ => rfl⟩
theorem grown_trans {a b c : World} {r : Option Nat} (h : a.grownBy b r) (k : b.grownBy c r) : a.grownBy c r :=
  ⟨k.os.trans h.os, k.tape.trans h.tape, k.output.trans h.output, Nat.le_trans h.size k.size, fun j hj hr => (k.block j (Nat.lt_of_lt_of_le hj h.size) hr).trans (h.block j hj hr)⟩
theorem grown_below {w w' : World} {r : Option Nat} (h : Below w.heap.size w w') : w.grownBy w' r := ⟨h.os, h.tape, h.output, h.size, fun k hk _ => h.block k hk⟩
theorem grown_to {w w' : World} {g B : Nat} (h : w.grownBy w' (some g)) (hB : B ≤ g) (hg : g < w.heap.size) : Below B w w' :=
  ⟨h.os, h.tape, h.output, h.size, fun k hk => h.block k (by omega) (by intro e; injection e with e; omega)⟩
theorem grown_set {w : World} {g i : Nat} (x : Value) : w.grownBy (w.setCell ⟨g, i, none⟩ x) (some g) := by
  refine ⟨rfl, rfl, rfl, by simp [World.setCell], fun k hk hr => ?_⟩
  show (w.heap.modify g _)[k]? = _
  rw [Array.getElem?_modify, if_neg (fun e => hr (by rw [e]))]
theorem Rd.below {B : Nat} {w w' : World} {g : Nat} {σ : Got Unit} (h : Rd B w g σ) (hb : Below w.heap.size w w') : Rd B w' g σ := by
  obtain ⟨hB, A, n, c, e, hh, hn, hc, hs⟩ := h
  have hg := blk_lt hh
  refine ⟨hB, A, n, c, e, (hb.block g hg).trans hh, hn, hc, ?_⟩
  rcases hs with ⟨l, e1, e2, hr, hl⟩ | ⟨e1, e2⟩
  · exact .inl ⟨l, e1, e2, hr.to fun p hp => hb.cell (by omega), hl⟩
  · exact .inr ⟨e1, e2⟩
/-- The reader's bytes, or its error, are stored. -/
theorem rd_left {w : World} {g : Nat} {x y z : Value} {t : TypeId} (h : w.heap[g]? = some (.cells #[x, y] t (0, 0))) : (w.setCell ⟨g, 0, none⟩ z).heap[g]? = some (.cells #[z, y] t (0, 0)) := by
  show (w.heap.modify g _)[g]? = _
  rw [Array.getElem?_modify, h]
  simp
theorem rd_error {w : World} {g : Nat} {x y z : Value} {t : TypeId} (h : w.heap[g]? = some (.cells #[x, y] t (0, 0))) : (w.setCell ⟨g, 1, none⟩ z).heap[g]? = some (.cells #[x, z] t (0, 0)) := by
  show (w.heap.modify g _)[g]? = _
  rw [Array.getElem?_modify, h]
  simp
theorem row_set {w : World} {B g i : Nat} {A : Option Addr} {us : List Value} {x : Value} (h : Row w B A us) (hB : B ≤ g) : Row (w.setCell ⟨g, i, none⟩ x) B A us :=
  h.to fun p hp => ((Below.refl B w).setCell (p := ⟨g, i, none⟩) hB x).cell hp

/-- Block g holds a row. -/
def RBox (w : World) (g : Nat) (num : Int) (A : Option Addr) (n c : Nat) : Prop := w.heap[g]? = some (.cells #[.int .i64 num, .slice A n c] 24 (0, 0))
theorem RBox.made (w : World) (num : Int) (A : Option Addr) (n c : Nat) : RBox (w.alloc (.cells #[.int .i64 num, .slice A n c] 24)) w.heap.size num A n c := heap_alloc_new w _
theorem RBox.cells {w : World} {g : Nat} {num : Int} {A : Option Addr} {n c : Nat} (h : RBox w g num A n c) : w.cell? ⟨g, 0, none⟩ = some (.int .i64 num) ∧ w.cell? ⟨g, 1, none⟩ = some (.slice A n c) := by
  have h' : w.heap[g]? = some (.cells #[.int .i64 num, .slice A n c] 24 (0, 0)) := h
  refine ⟨?_, ?_⟩ <;> simp [World.cell?, h']
theorem RBox.below {w w' : World} {g : Nat} {num : Int} {A : Option Addr} {n c : Nat} (h : RBox w g num A n c) (hb : Below w.heap.size w w') : RBox w' g num A n c := (hb.block g (blk_lt h)).trans h
end Go.Proofs.Ytkpieiolplkifaa.Rw
