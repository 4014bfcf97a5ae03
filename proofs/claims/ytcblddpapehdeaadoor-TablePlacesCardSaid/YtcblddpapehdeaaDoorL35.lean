/- A list of texts that came in as an argument; are two lists of numbers one; what a table wi Columns by their names, from the last one on: the program's map. -/
import Derived.Test.YtcblddpapehdeaaDoorL06
import Derived.Test.YtcblddpapehdeaaDoorL10
import Derived.Test.YtcblddpapehdeaaDoorL26
import Derived.Test.YtcblddpapehdeaaDoorL34
import Derived.Maps.OwnIn
import Derived.Test.YtcblddpapehdeaaDoorL22
import Derived.Test.YtcblddpapehdeaaDoorL24
namespace Go.Proofs.YtcblddpapehdeaaDoor.Tk
open Go.ChangeShapes Go.WideShapes Go.ChangeAt Go.RowKit Go.Proofs.YtcblddpapehdeaaDoor.Mem Go.Proofs.YtcblddpapehdeaaDoor.Ep Go.Proofs.YtcblddpapehdeaaDoor.Sm Go.Proofs.YtcblddpapehdeaaDoor.Right
set_option linter.unusedVariables false
section
variable {H : Type} {enc : TypeId × Value → H} {W : World}
set_option maxRecDepth 100000 in
theorem open_strv {r : Reach} {b0 : Nat} {v : Value} {d : DataW H} {p : List MemPlace} (hv : Value.okWide Tryd.prog W r b0 32 v) (h : DataW.Trod enc Tryd.prog W 0 (fun _ => true) true 32 v d p) :
    ∃ A c l, v = .slice A (List.length l) c ∧ Row W W.heap.size A (l.map str) ∧ (A = none → c = 0) ∧ l.length ≤ c ∧ c ≤ maxLen := by
  obtain ⟨A, n, c, rfl⟩ := okWide_slice Tryd.underlying32 hv
  obtain ⟨fuel, hf⟩ := h
  obtain ⟨d, h1, h2⟩ := open_dt fuel 32 _ _ hf
  obtain ⟨l, rfl, hl⟩ := shp_ss Tm.hasTb.c.b h2
  obtain ⟨A', c', e, g1, g2, g3, g4⟩ := in_row.1 h1
  simp [Value.cells] at e
  obtain ⟨rfl, rfl, rfl⟩ := e
  refine ⟨_, _, l, rfl, fun k u hu => ?_, g3, by simpa using g1, g2⟩
  rw [List.getElem?_map] at hu
  obtain ⟨x, hx, rfl⟩ := Option.map_eq_some_iff.1 hu
  exact s_at g4 hx
end
/-- Two lists of numbers. -/
theorem numbers_yes (L : List Int) (A B : Option Addr) (n c d : Nat) (w : World) (hn : L.length = n) (hN : n ≤ 100000) (hA : Row w w.heap.size A (L.map (Value.int .i64))) (hB : Row w w.heap.size B (L.map (Value.int .i64))) : Calls Tryd.prog 16 #[.slice A n c, .slice B n d] w fun e w' => e = .returned (.bool true) ∧ Below w.heap.size w w' := by
  have HN := Lib.hid hn
  have HA := Lib.hid hA
  have HB := Lib.hid hB
  clear hn hA hB
  go_enter Tryd.func16, Tryd.ntmps16
  go_wp2
  go_loopw [5] (fun i wr => ∃ j : Nat, j ≤ n ∧ i = .int .i64 (j : Int) ∧ Hid (Below w.heap.size w wr)) (fun i _ => n + 1 - (intOf i).toNat)
  case atStart => exact ⟨0, Nat.zero_le _, rfl, Lib.hid (Below.refl _ _)⟩
  case round =>
    obtain ⟨j, hj, rfl, HW⟩ := hrel
    by_cases hlt : j < n
    · have tl : decide ((j : Int) < (n : Int)) = true := decide_eq_true (by omega)
      have tl2 : decide (j < n) = true := decide_eq_true hlt
      obtain ⟨x, hx⟩ := some_at HN.out hlt
      have hu : (L.map (Value.int .i64))[j]? = some (.int .i64 x) := by rw [List.getElem?_map, hx]; rfl
      obtain ⟨b, o, rfl, hb, c0⟩ := HA.out j _ hu
      obtain ⟨b', o', rfl, hb', c0'⟩ := HB.out j _ hu
      have d0 := (HW.out.cell (p := ⟨b, o + j, none⟩) hb).trans c0
      have d1 := (HW.out.cell (p := ⟨b', o' + j, none⟩) hb').trans c0'
      clear hu hx hb hb' c0 c0'
      go_wp2
      go_quiet (fail)
      go_wp2
      go_roundw
      case rel => exact ⟨j + 1, by omega, by go_num, Lib.hid (below_drewN HW.out _)⟩
      case measure => simp [intOf]; omega
    · have tl : decide ((j : Int) < (n : Int)) = false := decide_eq_false (by omega)
      have tl2 : decide (j < n) = false := decide_eq_false hlt
      go_wp2
      go_ret
      exact ⟨rfl, HW.out⟩
theorem flat_few {L : List (List Bs)} {k : Nat} (h : ∀ l ∈ L, l.length ≤ k) : L.flatten.length ≤ k * L.length := by
  induction L with
  | nil => simp
  | cons l L ih =>
    have h1 := ih fun x hx => h x (List.mem_cons_of_mem _ hx)
    have h2 := h l (by simp)
    rw [List.flatten_cons, List.length_append, List.length_cons, Nat.mul_succ]
    omega
theorem sum_few {α : Type} {L : List α} {g : α → Nat} {k : Nat} (h : ∀ l ∈ L, g l ≤ k) : (L.map g).sum ≤ k * L.length := by
  induction L with
  | nil => simp
  | cons l L ih =>
    have h1 := ih fun x hx => h x (List.mem_cons_of_mem _ hx)
    have h2 := h l (by simp)
    rw [List.map_cons, List.sum_cons, List.length_cons, Nat.mul_succ]
    omega
section
variable {x : Tb}
theorem exF_lim {e : Ex} (h : exF e) : Lim e ∧ size e ≤ 60 := by
  obtain ⟨m, h⟩ := h
  exact ⟨cnt_lim h, by have := cnt_size h; omega⟩
theorem FwT.chk (h : FwT x) : ∀ c ∈ x.cons, Lim c.chk ∧ size c.chk ≤ 60 := fun c hc => exF_lim (h.cons c hc).1.2.2
theorem FwT.chk2 (h : FwT x) : ∀ c ∈ x.cons, c.kind = 2 → Lim c.chk ∧ size c.chk ≤ 1000 := fun c hc _ => ⟨(h.chk c hc).1, by have := (h.chk c hc).2; omega⟩
theorem FwT.lists (h : FwT x) : ∀ l ∈ listsL x, l.length ≤ 12 ∧ ∀ s ∈ l, s.length ≤ 100 := by
  intro l hl
  unfold listsL at hl
  rcases List.mem_append.1 hl with hl | hl
  · obtain ⟨c, hc, rfl⟩ := List.mem_map.1 hl
    refine ⟨(h.cons c hc).1.1, fun s hs => (h.cons c hc).2 s ?_⟩
    unfold cnT
    simp [hs]
  · obtain ⟨i, hi, rfl⟩ := List.mem_map.1 hl
    exact ⟨(h.idx i hi).1, (h.idx i hi).2.2⟩
theorem FwT.usf (h : FwT x) : UsF x where
  chk := h.chk2
  all := by
    have h1 := flat_few fun l hl => (h.lists l hl).1
    have h2 : (listsL x).length = x.cons.length + x.idx.length := by unfold listsL; rw [List.length_append, List.length_map, List.length_map]
    have h3 := sum_few (L := x.cons) (g := fun c => size c.chk) fun c hc => (h.chk c hc).2
    have h4 := h.sizes
    rw [h2] at h1
    omega
theorem FwT.short (h : FwT x) : ∀ l ∈ usesL x, l.length ≤ 100000 := usesL_short (fun c hc => ⟨by have := (h.cons c hc).1.1; omega, fun _ => by have := (h.chk c hc).2; omega⟩) (fun i hi => by have := (h.idx i hi).1; omega)
theorem FwT.n3 (h : FwT x) {w : World} {B : Nat} {f : Fb} (hf : FbIn w B f x) : f.n3 ≤ 12 ∧ f.n4 ≤ 12 ∧ f.n5 ≤ 12 := by rw [hf.n3, hf.n4, hf.n5]; exact h.sizes
end
end Go.Proofs.YtcblddpapehdeaaDoor.Tk
namespace Go.Proofs.YtcblddpapehdeaaDoor.Tk
open Go.RowKit Go.Proofs.YtcblddpapehdeaaDoor.Mem Go.Proofs.YtcblddpapehdeaaDoor.Ep Go.Proofs.YtcblddpapehdeaaDoor.Sm
set_option linter.unusedVariables false
def nmAt (cols : List Co) (i : Nat) : Bs := (cols[i]?.getD co0).nm
/-- The map behind these columns. -/
def PD (cols : List Co) (pre : List Nat) : DataW Unit := pre.foldl (fun D i => D.put (.string (nmAt cols i)) (.lit (.int .i64 (i : Int)))) (.map [])
theorem pd_on (cols : List Co) (pre : List Nat) (i : Nat) : PD cols (pre ++ [i]) = (PD cols pre).put (.string (nmAt cols i)) (.lit (.int .i64 (i : Int))) := by
  unfold PD
  rw [List.foldl_append]; rfl
theorem isMap_put {D : DataW Unit} {k : Lit} {d : DataW Unit} (h : Maps.IsMap D) : Maps.IsMap (D.put k d) := by
  obtain ⟨es, rfl⟩ := h
  exact ⟨_, rfl⟩
theorem pd_map (cols : List Co) (pre : List Nat) : Maps.IsMap (PD cols pre) := by
  unfold PD
  generalize hD : (DataW.map [] : DataW Unit) = D
  have h : Maps.IsMap D := ⟨[], hD.symm⟩
  clear hD
  induction pre generalizing D with
  | nil => exact h
  | cons i l ih => rw [List.foldl_cons]; exact ih _ (isMap_put h)
theorem str_ne {a b : Bs} (h : a ≠ b) : Lit.string a ≠ Lit.string b := fun e => h (by injection e)
/-- The first column of the name, of those that have been laid, counts. -/
theorem pd_at (cols : List Co) (m : Nat) (hm : cols.length = m) : ∀ k, k ≤ m → ∀ s : Bs,
    ((∀ i, m - k ≤ i → i < m → nmAt cols i ≠ s) → Maps.has (PD cols (downs m k)) (.string s) = false) ∧
    (∀ j, m - k ≤ j → j < m → nmAt cols j = s → (∀ i, m - k ≤ i → i < j → nmAt cols i ≠ s) → Maps.has (PD cols (downs m k)) (.string s) = true ∧ ∀ z, (PD cols (downs m k)).atKey (.string s) z = .lit (.int .i64 (j : Int)))
  | 0, _, s => ⟨fun _ => Maps.has_false_of_atKey (fun z => rfl), fun j h1 h2 _ _ => by omega⟩
  | k + 1, hk, s => by
    obtain ⟨h1, h2⟩ := pd_at cols m hm k (by omega) s
    have e : downs m (k + 1) = downs m k ++ [m - 1 - k] := rfl
    rw [e, pd_on]
    have hM := pd_map cols (downs m k)
    by_cases hs : nmAt cols (m - 1 - k) = s
    · subst hs
      refine ⟨fun g => absurd rfl (g (m - 1 - k) (by omega) (by omega)), fun j g1 g2 g3 g4 => ?_⟩
      have hj : j = m - 1 - k := by
        rcases Nat.lt_or_ge (m - 1 - k) j with h | h
        · exact absurd rfl (g4 (m - 1 - k) (by omega) h)
        · omega
      subst hj
      have hK : WideAt.IsKeyLit (Lit.string (nmAt cols (m - 1 - k))) := trivial
      exact ⟨Maps.has_put_same hM hK _, fun z => Maps.atKey_put_same hM hK _ _⟩
    · refine ⟨fun g => ?_, fun j g1 g2 g3 g4 => ?_⟩
      · rw [Maps.has_put_other (str_ne fun e => hs e.symm)]
        exact h1 fun i i1 i2 => g i (by omega) i2
      · have hj : j ≠ m - 1 - k := fun e => by subst e; exact hs g3
        rw [Maps.has_put_other (str_ne fun e => hs e.symm)]
        have := h2 j (by omega) g2 g3 (fun i i1 i2 => g4 i (by omega) i2)
        refine ⟨this.1, fun z => ?_⟩
        rw [Maps.atKey_put_other (str_ne fun e => hs e.symm)]
        exact this.2 z
theorem nmAt_is {cols : List Co} {i : Nat} {c : Co} (h : cols[i]? = some c) : nmAt cols i = c.nm := by unfold nmAt; rw [h]; rfl
/-- So all columns laid tell a column's place. -/
theorem pd_all (cols : List Co) (m : Nat) (hm : cols.length = m) (s : Bs) : (colI cols s < 0 ∧ Maps.has (PD cols (downs m m)) (.string s) = false) ∨ (0 ≤ colI cols s ∧ Maps.has (PD cols (downs m m)) (.string s) = true ∧ ∀ z, (PD cols (downs m m)).atKey (.string s) z = .lit (.int .i64 (colI cols s))) := by
  obtain ⟨h1, h2⟩ := pd_at cols m hm m (Nat.le_refl _) s
  by_cases h : ∀ y ∈ cols, ¬ y.nm = s
  · left
    refine ⟨by rw [colI_no h]; decide, h1 fun i _ hi => ?_⟩
    obtain ⟨c, hc⟩ := some_at hm hi
    rw [nmAt_is hc]
    exact h c (List.mem_of_getElem? hc)
  · right
    -- the least one
    have hex : ∃ j, j < m ∧ nmAt cols j = s := by
      refine Classical.byContradiction fun g => h fun y hy e => g ?_
      obtain ⟨j, hj, rfl⟩ := List.mem_iff_getElem.1 hy
      exact ⟨j, by omega, by rw [nmAt_is (List.getElem?_eq_getElem hj)]; exact e⟩
    have hle : ∀ n, (∃ j, j < n ∧ nmAt cols j = s) → ∃ j, j < n ∧ nmAt cols j = s ∧ ∀ i, i < j → nmAt cols i ≠ s := by
      intro n
      induction n with
      | zero => rintro ⟨j, hj, _⟩; omega
      | succ n ih =>
        rintro ⟨j, hj, e⟩
        by_cases g : ∃ j, j < n ∧ nmAt cols j = s
        · obtain ⟨i, hi, e2, e3⟩ := ih g
          exact ⟨i, by omega, e2, e3⟩
        · have : j = n := by
            refine Classical.byContradiction fun q => g ⟨j, by omega, e⟩
          subst this
          exact ⟨j, hj, e, fun i hi e2 => g ⟨i, hi, e2⟩⟩
    obtain ⟨j, hj, e, hl⟩ := hle m hex
    obtain ⟨c, hc⟩ := some_at hm hj
    have hI : colI cols s = (j : Int) := by
      refine colI_at hc (by rw [← nmAt_is hc]; exact e) fun y hy => ?_
      obtain ⟨i, hi, rfl⟩ := List.mem_iff_getElem.1 hy
      rw [List.length_take] at hi
      rw [List.getElem_take, ← nmAt_is (List.getElem?_eq_getElem (by omega))]
      exact hl i (by omega)
    rw [hI]
    have := h2 j (by omega) hj e fun i _ hi => hl i hi
    exact ⟨by omega, this.1, this.2⟩
end Go.Proofs.YtcblddpapehdeaaDoor.Tk
