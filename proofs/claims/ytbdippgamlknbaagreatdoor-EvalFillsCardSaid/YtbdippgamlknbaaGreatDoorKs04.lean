/- Data of any shape in memory: numbers, texts, records and lists of these, as deep as may be -/
import Derived.Deep.Slices
import Derived.Test.YtbdippgamlknbaaGreatDoorKs03
namespace Go.Proofs.YtbdippgamlknbaaGreatDoor.Mem
open Go.RowKit Go.ChangeShapes Go.WideShapes Go.Deep
set_option linter.unusedVariables false
/-- One cell; a record (its cells, where its fields lie, these); a list (an element's cells, these); something else. -/
inductive Dt where
  | one (v : Value)
  | rcd (n : Nat) (sp : List (Nat × Nat)) (fs : List Dt)
  | row (k : Nat) (xs : List Dt)
  | other
instance : Inhabited Dt := ⟨.other⟩
theorem Dt.byParts {C : Dt → Prop} (h1 : ∀ v, C (.one v)) (h2 : ∀ (n : Nat) (sp : List (Nat × Nat)) (fs : List Dt), (∀ x ∈ fs, C x) → C (.rcd n sp fs)) (h3 : ∀ (k : Nat) (xs : List Dt), (∀ x ∈ xs, C x) → C (.row k xs)) (h4 : C .other) : ∀ d, C d := by
  intro d
  refine Dt.rec (motive_1 := C) (motive_2 := fun l => ∀ x ∈ l, C x) h1 (fun n sp fs ih => h2 n sp fs ih) (fun k xs ih => h3 k xs ih) h4 ?_ ?_ d
  · intro x hx; simp at hx
  · intro a l ha hl x hx
    rcases List.mem_cons.1 hx with rfl | hx
    · exact ha
    · exact hl x hx
/-- A field's cells. -/
def span (cs : List Value) (p : Nat × Nat) : List Value := (cs.drop p.1).take p.2
mutual
/-- These cells read as the data; all that it leads to lies in blocks of S. -/
def DtIn (w : World) (S : Nat → Prop) : Dt → List Value → Prop
  | .one v, cs => cs = [v]
  | .rcd n sp fs, cs => cs.length = n ∧ RecIn w S fs sp cs
  | .row k xs, cs => ∃ A c, cs = [.slice A xs.length c] ∧ xs.length ≤ c ∧ c ≤ maxLen ∧ (A = none → c = 0) ∧ RowIn w S A k xs 0
  | .other, _ => True
def RecIn (w : World) (S : Nat → Prop) : List Dt → List (Nat × Nat) → List Value → Prop
  | [], _, _ => True
  | x :: r, sp, cs => DtIn w S x (span cs (sp.headD (0, 0))) ∧ RecIn w S r sp.tail cs
def RowIn (w : World) (S : Nat → Prop) (A : Option Addr) (k : Nat) : List Dt → Nat → Prop
  | [], _ => True
  | x :: r, j => (∃ b o cs, A = some ⟨b, o, none⟩ ∧ S b ∧ cs.length = k ∧ (∀ i u, cs[i]? = some u → w.cell? ⟨b, o + j * k + i, none⟩ = some u) ∧ DtIn w S x cs) ∧ RowIn w S A k r (j + 1)
end
section
variable {w w' : World} {S S' : Nat → Prop}
theorem in_one {v : Value} {cs : List Value} : DtIn w S (.one v) cs ↔ cs = [v] := by rw [DtIn]
theorem in_rec {n : Nat} {sp : List (Nat × Nat)} {fs : List Dt} {cs : List Value} : DtIn w S (.rcd n sp fs) cs ↔ cs.length = n ∧ RecIn w S fs sp cs := by rw [DtIn]
theorem in_row {k : Nat} {xs : List Dt} {cs : List Value} : DtIn w S (.row k xs) cs ↔ ∃ A c, cs = [.slice A xs.length c] ∧ xs.length ≤ c ∧ c ≤ maxLen ∧ (A = none → c = 0) ∧ RowIn w S A k xs 0 := by rw [DtIn]
theorem rec_nil {sp : List (Nat × Nat)} {cs : List Value} : RecIn w S [] sp cs := by rw [RecIn]; trivial
theorem rec_cons {x : Dt} {r : List Dt} {p : Nat × Nat} {sp : List (Nat × Nat)} {cs : List Value} : RecIn w S (x :: r) (p :: sp) cs ↔ DtIn w S x (span cs p) ∧ RecIn w S r sp cs := by rw [RecIn]; rfl
theorem row_nil {A : Option Addr} {k j : Nat} : RowIn w S A k [] j := by rw [RowIn]; trivial
theorem row_cons {A : Option Addr} {k j : Nat} {x : Dt} {r : List Dt} :
    RowIn w S A k (x :: r) j ↔ (∃ b o cs, A = some ⟨b, o, none⟩ ∧ S b ∧ cs.length = k ∧ (∀ i u, cs[i]? = some u → w.cell? ⟨b, o + j * k + i, none⟩ = some u) ∧ DtIn w S x cs) ∧ RowIn w S A k r (j + 1) := by rw [RowIn]
theorem RowIn.get {A : Option Addr} {k : Nat} : ∀ {l : List Dt} {j0 j : Nat} {x : Dt}, RowIn w S A k l j0 → l[j]? = some x →
    ∃ b o cs, A = some ⟨b, o, none⟩ ∧ S b ∧ cs.length = k ∧ (∀ i u, cs[i]? = some u → w.cell? ⟨b, o + (j0 + j) * k + i, none⟩ = some u) ∧ DtIn w S x cs
  | [], _, _, _, _, h => by simp at h
  | y :: l, j0, 0, x, h, hx => by
    simp at hx; subst hx
    exact (row_cons.1 h).1
  | y :: l, j0, j + 1, x, h, hx => by
    rw [List.getElem?_cons_succ] at hx
    have := RowIn.get (row_cons.1 h).2 hx
    rw [show j0 + 1 + j = j0 + (j + 1) by omega] at this
    exact this
theorem RowIn.of {A : Option Addr} {k : Nat} : ∀ {l : List Dt} {j0 : Nat}, (∀ (j : Nat) (x : Dt), l[j]? = some x → ∃ b o cs, A = some ⟨b, o, none⟩ ∧ S b ∧ cs.length = k ∧ (∀ i u, cs[i]? = some u → w.cell? ⟨b, o + (j0 + j) * k + i, none⟩ = some u) ∧ DtIn w S x cs) → RowIn w S A k l j0
  | [], _, _ => row_nil
  | y :: l, j0, h => by
    rw [row_cons]
    refine ⟨by simpa using h 0 y rfl, RowIn.of fun j x hx => ?_⟩
    have := h (j + 1) x (by simpa using hx)
    rw [show j0 + (j + 1) = j0 + 1 + j by omega] at this
    exact this
theorem RecIn.get : ∀ {l : List Dt} {sp : List (Nat × Nat)} {cs : List Value} {j : Nat} {x : Dt}, RecIn w S l sp cs → l[j]? = some x → DtIn w S x (span cs (sp.getD j (0, 0)))
  | [], _, _, _, _, _, h => by simp at h
  | y :: l, [], cs, 0, x, h, hx => by simp at hx; subst hx; rw [RecIn] at h; exact h.1
  | y :: l, p :: sp, cs, 0, x, h, hx => by simp at hx; subst hx; exact (rec_cons.1 h).1
  | y :: l, [], cs, j + 1, x, h, hx => by
    rw [List.getElem?_cons_succ] at hx
    rw [RecIn] at h
    exact RecIn.get (sp := []) (j := j) h.2 hx
  | y :: l, p :: sp, cs, j + 1, x, h, hx => by
    rw [List.getElem?_cons_succ] at hx
    exact RecIn.get (sp := sp) (j := j) (rec_cons.1 h).2 hx
theorem RecIn.of : ∀ {l : List Dt} {sp : List (Nat × Nat)} {cs : List Value}, (∀ (j : Nat) (x : Dt), l[j]? = some x → DtIn w S x (span cs (sp.getD j (0, 0)))) → RecIn w S l sp cs
  | [], _, _, _ => rec_nil
  | y :: l, [], cs, h => by
    rw [RecIn]
    refine ⟨h 0 y rfl, RecIn.of fun j x hx => ?_⟩
    exact h (j + 1) x (by simpa using hx)
  | y :: l, p :: sp, cs, h => by
    rw [rec_cons]
    refine ⟨h 0 y rfl, RecIn.of fun j x hx => ?_⟩
    exact h (j + 1) x (by simpa using hx)
/-- What lies in other blocks may turn. -/
theorem DtIn.to (hS : ∀ b, S b → S' b) (hk : ∀ p : Addr, S p.block → w'.cell? p = w.cell? p) : ∀ (d : Dt) (cs : List Value), DtIn w S d cs → DtIn w' S' d cs := by
  refine Dt.byParts (fun v cs h => in_one.2 (in_one.1 h)) (fun n sp fs ih cs h => ?_) (fun k xs ih cs h => ?_) (fun cs h => by rw [DtIn]; trivial)
  · obtain ⟨h1, h2⟩ := in_rec.1 h
    exact in_rec.2 ⟨h1, RecIn.of fun j x hx => ih x (List.mem_of_getElem? hx) _ (h2.get hx)⟩
  · obtain ⟨A, c, h1, h2, h3, h4, h5⟩ := in_row.1 h
    refine in_row.2 ⟨A, c, h1, h2, h3, h4, RowIn.of fun j x hx => ?_⟩
    obtain ⟨b, o, cs', e, hb, hl, hc, hx'⟩ := h5.get hx
    exact ⟨b, o, cs', e, hS b hb, hl, fun i u hu => (hk _ hb).trans (hc i u hu), ih x (List.mem_of_getElem? hx) cs' hx'⟩
theorem RowIn.to (hS : ∀ b, S b → S' b) (hk : ∀ p : Addr, S p.block → w'.cell? p = w.cell? p) {A : Option Addr} {k j0 : Nat} {l : List Dt} (h : RowIn w S A k l j0) : RowIn w' S' A k l j0 :=
  RowIn.of fun j x hx => by
    obtain ⟨b, o, cs', e, hb, hl, hc, hx'⟩ := h.get hx
    exact ⟨b, o, cs', e, hS b hb, hl, fun i u hu => (hk _ hb).trans (hc i u hu), DtIn.to hS hk x cs' hx'⟩
theorem DtIn.more {d : Dt} {cs : List Value} (h : DtIn w S d cs) (hS : ∀ b, S b → S' b) : DtIn w S' d cs := DtIn.to hS (fun _ _ => rfl) d cs h
theorem DtIn.below {B : Nat} {d : Dt} {cs : List Value} (h : DtIn w (fun b => b < B) d cs) (hb : Below B w w') : DtIn w' (fun b => b < B) d cs := DtIn.to (fun _ h => h) (fun p hp => hb.cell hp) d cs h
theorem DtIn.on {d : Dt} {cs : List Value} (h : DtIn w (fun b => b < w.heap.size) d cs) (hb : Below w.heap.size w w') : DtIn w' (fun b => b < w'.heap.size) d cs := DtIn.to (fun b h => Nat.lt_of_lt_of_le h hb.size) (fun p hp => hb.cell hp) d cs h
end
/-- Data of a type. -/
inductive Shp (P : Program) : TypeId → Dt → Prop
  | bool {t : TypeId} {b : Bool} : P.underlying t = some .bool → Shp P t (.one (.bool b))
  | int {t : TypeId} {k : IntKind} {n : Int} : P.underlying t = some (.int k) → (Lit.int k n).wf = true → Shp P t (.one (.int k n))
  | str {t : TypeId} {s : ByteArray} : P.underlying t = some .string → s.size ≤ maxLen → Shp P t (.one (.string s))
  | row {t e : TypeId} {xs : List Dt} : P.underlying t = some (.slice e) → 0 < P.cellsOf e → xs.length ≤ maxLen → (∀ x ∈ xs, Shp P e x) → Shp P t (.row (P.cellsOf e) xs)
  | rcd {t : TypeId} {fs : Array Field} {ds : List Dt} : P.underlying t = some (.struct fs) → ds.length = fs.size → (∀ (i : Nat) (f : Field) (x : Dt), fs[i]? = some f → ds[i]? = some x → Shp P f.type x) → Shp P t (.rcd (P.cellsOf t) (fs.toList.map fun f => (f.offset, P.cellsOf f.type)) ds)
  | other {t : TypeId} : P.underlying t ≠ some .bool → (∀ k, P.underlying t ≠ some (.int k)) → P.underlying t ≠ some .string → (∀ e, P.underlying t = some (.slice e) → P.cellsOf e = 0) → (∀ fs, P.underlying t ≠ some (.struct fs)) → Shp P t .other
section
variable {P : Program} {t : TypeId} {d : Dt}
theorem Shp.int_inv {k : IntKind} (h : Shp P t d) (ht : P.underlying t = some (.int k)) : ∃ n, d = .one (.int k n) ∧ (Lit.int k n).wf = true := by
  cases h with
  | bool h => rw [ht] at h; cases h
  | int h hw =>
    rw [ht] at h
    injection h with h
    injection h with h
    subst h
    exact ⟨_, rfl, hw⟩
  | str h _ => rw [ht] at h; cases h
  | row h _ _ _ => rw [ht] at h; cases h
  | rcd h _ _ => rw [ht] at h; cases h
  | other _ h _ _ _ => exact absurd ht (h k)
theorem Shp.str_inv (h : Shp P t d) (ht : P.underlying t = some .string) : ∃ s, d = .one (.string s) ∧ s.size ≤ maxLen := by
  cases h with
  | bool h => rw [ht] at h; cases h
  | int h _ => rw [ht] at h; cases h
  | str h hs => exact ⟨_, rfl, hs⟩
  | row h _ _ _ => rw [ht] at h; cases h
  | rcd h _ _ => rw [ht] at h; cases h
  | other _ _ h _ _ => exact absurd ht h
theorem Shp.row_inv {e : TypeId} (h : Shp P t d) (ht : P.underlying t = some (.slice e)) (hc : P.cellsOf e ≠ 0) : ∃ xs, d = .row (P.cellsOf e) xs ∧ xs.length ≤ maxLen ∧ ∀ x ∈ xs, Shp P e x := by
  cases h with
  | bool h => rw [ht] at h; cases h
  | int h _ => rw [ht] at h; cases h
  | str h _ => rw [ht] at h; cases h
  | row h _ h2 h3 =>
    rw [ht] at h
    injection h with h
    injection h with h
    subst h
    exact ⟨_, rfl, h2, h3⟩
  | rcd h _ _ => rw [ht] at h; cases h
  | other _ _ _ h _ => exact absurd (h e ht) hc
theorem Shp.rec_inv {fs : Array Field} (h : Shp P t d) (ht : P.underlying t = some (.struct fs)) : ∃ ds, d = .rcd (P.cellsOf t) (fs.toList.map fun f => (f.offset, P.cellsOf f.type)) ds ∧ ds.length = fs.size ∧ ∀ (i : Nat) (f : Field) (x : Dt), fs[i]? = some f → ds[i]? = some x → Shp P f.type x := by
  cases h with
  | bool h => rw [ht] at h; cases h
  | int h _ => rw [ht] at h; cases h
  | str h _ => rw [ht] at h; cases h
  | row h _ _ _ => rw [ht] at h; cases h
  | rcd h h2 h3 =>
    rw [ht] at h
    injection h with h
    injection h with h
    subst h
    exact ⟨_, rfl, h2, h3⟩
  | other _ _ _ _ h => exact absurd ht (h fs)
end
section
variable {H : Type} {enc : TypeId × Value → H} {P : Program} {W : World} {sp : Nat → Bool} {held : Bool}
set_option maxHeartbeats 400000 in
theorem open_dt : ∀ (fuel : Nat) (t : TypeId) (cs : List Value) (x : DataW H × List MemPlace), DataW.trod enc P W 0 sp held fuel t cs = some x → ∃ d, DtIn W (fun b => b < W.heap.size) d cs ∧ Shp P t d := by
  intro fuel
  induction fuel using Nat.strongRecOn with
  | _ fuel ih =>
    intro t cs x h
    have oth : (∀ k, P.underlying t ≠ some (.int k)) → P.underlying t ≠ some .bool → P.underlying t ≠ some .string → (∀ e, P.underlying t = some (.slice e) → P.cellsOf e = 0) → (∀ fs, P.underlying t ≠ some (.struct fs)) → ∃ d, DtIn W (fun b => b < W.heap.size) d cs ∧ Shp P t d :=
      fun h1 h2 h3 h4 h5 => ⟨.other, by rw [DtIn]; trivial, .other h2 h1 h3 h4 h5⟩
    cases hu : P.underlying t with
    | none => exact oth (fun k => by rw [hu]; exact fun e => by cases e) (by rw [hu]; exact fun e => by cases e) (by rw [hu]; exact fun e => by cases e) (fun e he => by rw [hu] at he; cases he) (fun fs => by rw [hu]; exact fun e => by cases e)
    | some u =>
      cases u with
      | bool =>
        obtain ⟨b, rfl, _⟩ := DataW.trod_bool hu h
        exact ⟨.one (.bool b), in_one.2 rfl, .bool hu⟩
      | int k =>
        obtain ⟨n, rfl, _, hw⟩ := DataW.trod_int hu h
        exact ⟨.one (.int k n), in_one.2 rfl, .int hu hw⟩
      | string =>
        obtain ⟨s, rfl, _, hs⟩ := DataW.trod_string hu h
        exact ⟨.one (.string s), in_one.2 rfl, .str hu hs⟩
      | struct fs =>
        obtain ⟨xs, n, hf, _, hlen, hxl, hfd⟩ := DataW.trod_struct hu h
        have each : ∀ i, i < fs.size → ∃ d : Dt, ∀ f, fs[i]? = some f → DtIn W (fun b => b < W.heap.size) d (span cs (f.offset, P.cellsOf f.type)) ∧ Shp P f.type d := fun i hi => by
          have h1 := hfd i fs[i] (Array.getElem?_eq_getElem hi)
          rw [List.getElem?_eq_getElem (by omega)] at h1
          obtain ⟨d, h2, h3⟩ := ih n (by omega) _ _ _ h1
          refine ⟨d, fun f hf' => ?_⟩
          rw [Array.getElem?_eq_getElem hi] at hf'
          injection hf' with hf'
          subst hf'
          exact ⟨h2, h3⟩
        obtain ⟨D, hD⟩ := choose_lt each
        refine ⟨.rcd (P.cellsOf t) (fs.toList.map fun f => (f.offset, P.cellsOf f.type)) ((List.range fs.size).map D), in_rec.2 ⟨hlen, RecIn.of fun j y hj => ?_⟩, .rcd hu (by simp) fun i f y hf' hy => ?_⟩
        · rw [List.getElem?_map] at hj
          obtain ⟨i, hi', rfl⟩ := Option.map_eq_some_iff.1 hj
          obtain ⟨hjn, hi2⟩ := List.getElem?_eq_some_iff.1 hi'
          simp at hjn hi2
          subst hi2
          have hfj : fs[j]? = some fs[j] := Array.getElem?_eq_getElem hjn
          have := (hD j hjn _ hfj).1
          have e : (fs.toList.map fun f => (f.offset, P.cellsOf f.type)).getD j (0, 0) = (fs[j].offset, P.cellsOf fs[j].type) := by
            rw [List.getD_eq_getElem?_getD, List.getElem?_map, Array.getElem?_toList, hfj]
            rfl
          rw [e]
          exact this
        · rw [List.getElem?_map] at hy
          obtain ⟨i', hi', rfl⟩ := Option.map_eq_some_iff.1 hy
          obtain ⟨hjn, hi2⟩ := List.getElem?_eq_some_iff.1 hi'
          simp at hjn hi2
          subst hi2
          exact (hD i hjn f hf').2
      | slice e =>
        by_cases hz : P.cellsOf e = 0
        · exact oth (fun k => by rw [hu]; exact fun e => by cases e) (by rw [hu]; exact fun e => by cases e) (by rw [hu]; exact fun e => by cases e) (fun e' he => by rw [hu] at he; injection he with he; injection he with he; exact he ▸ hz) (fun fs => by rw [hu]; exact fun e => by cases e)
        rcases DataW.trod_slice hu h with ⟨rfl, _⟩ | ⟨a, len, cap, elems, rest, q, hq, rfl, _, _, hl, hm, hel, hx, _, _⟩
        · exact ⟨.row (P.cellsOf e) [], in_row.2 ⟨none, 0, rfl, Nat.le_refl _, Nat.zero_le _, fun _ => rfl, row_nil⟩, .row hu (by omega) (by simp) (by simp)⟩
        · have each : ∀ i, i < len → ∃ d : Dt, (∃ cs', W.cells? 0 (a.add (i * P.cellsOf e)) (P.cellsOf e) = some cs' ∧ DtIn W (fun b => b < W.heap.size) d cs') ∧ Shp P e d := fun i hi => by
            have h1 := hx i hi
            rw [List.getElem?_eq_getElem (by omega)] at h1
            obtain ⟨cs', h2, h3⟩ := Option.bind_eq_some_iff.1 h1
            obtain ⟨d, h4, h5⟩ := ih q (by omega) _ cs' _ h3
            exact ⟨d, ⟨cs', h2, h4⟩, h5⟩
          obtain ⟨E, hE⟩ := choose_lt each
          have hlen2 : ((List.range len).map E).length = len := by simp
          refine ⟨.row (P.cellsOf e) ((List.range len).map E), in_row.2 ⟨some a, cap, by rw [hlen2], by omega, hm, (fun e => by cases e), RowIn.of fun j y hj => ?_⟩, .row hu (by omega) (by omega) fun y hy => ?_⟩
          · rw [List.getElem?_map] at hj
            obtain ⟨i, hi', rfl⟩ := Option.map_eq_some_iff.1 hj
            obtain ⟨hjn, hi2⟩ := List.getElem?_eq_some_iff.1 hi'
            simp at hjn hi2
            subst hi2
            obtain ⟨⟨cs', h1, h2⟩, _⟩ := hE j hjn
            obtain ⟨_, hl7, hcell⟩ := World.cells?_some h1
            obtain ⟨b, o', s⟩ := a
            obtain ⟨v, hv⟩ : ∃ v, cs'[0]? = some v := ⟨cs'[0]'(by omega), List.getElem?_eq_getElem _⟩
            obtain ⟨⟨cz, hz1, _⟩, _⟩ := hE 0 (by omega)
            obtain ⟨_, hz7, hzc⟩ := World.cells?_some hz1
            have hz0 := (hzc 0 (by omega)).trans (List.getElem?_eq_getElem (show 0 < cz.length by omega))
            have hs : s = none := by simpa [Addr.add] using World.cell?_spot hz0
            subst hs
            have hc : ∀ i u, cs'[i]? = some u → W.cell? ⟨b, o' + (0 + j) * P.cellsOf e + i, none⟩ = some u := fun i u hu => by
              have hi7 : i < P.cellsOf e := by have := (List.getElem?_eq_some_iff.1 hu).1; omega
              have := (hcell i hi7).trans hu
              rw [add_add, add_plain] at this
              rw [Nat.zero_add, Nat.add_assoc]; exact this
            exact ⟨b, o', cs', rfl, cell_lt (hc 0 v hv), hl7, hc, h2⟩
          · obtain ⟨i, hi', rfl⟩ := List.mem_map.1 hy
            exact (hE i (List.mem_range.1 hi')).2
      | _ => exact oth (fun k => by rw [hu]; exact fun e => by cases e) (by rw [hu]; exact fun e => by cases e) (by rw [hu]; exact fun e => by cases e) (fun e he => by rw [hu] at he; cases he) (fun fs => by rw [hu]; exact fun e => by cases e)
end
end Go.Proofs.YtbdippgamlknbaaGreatDoor.Mem
