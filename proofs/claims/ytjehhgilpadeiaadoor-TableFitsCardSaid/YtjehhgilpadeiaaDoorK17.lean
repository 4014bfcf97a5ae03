/- The values of a row at places: the program's call and the document's; that they are the sa -/
import Derived.Deep.MidRow
import Derived.Laws.MakeOwn
import Derived.Test.YtjehhgilpadeiaaDoorK16
namespace Go.Proofs.YtjehhgilpadeiaaDoor.Tk
open Go.RowKit Go.Proofs.YtjehhgilpadeiaaDoor.Mem Go.Proofs.YtjehhgilpadeiaaDoor.Right
set_option linter.unusedVariables false
abbrev tVs : TypeId := 46
def zV : Vl := ⟨0, 0, ⟨#[]⟩⟩
def keyV (vs : List Vl) (p : Int) : Vl := if 0 ≤ p ∧ p < (vs.length : Int) then (vs[p.toNat]?).getD zV else zV
def keyT (vs : List Vl) (ps : List Int) : List Vl := ps.map (keyV vs)
theorem keyV_in {vs : List Vl} {p : Nat} {v : Vl} (h : vs[p]? = some v) : keyV vs (p : Int) = v := by
  have := (List.getElem?_eq_some_iff.1 h).1
  unfold keyV
  rw [if_pos ⟨by omega, by omega⟩, Int.toNat_natCast, h]; rfl
theorem keyV_out {vs : List Vl} {p : Int} (h : ¬ (0 ≤ p ∧ p < (vs.length : Int))) : keyV vs p = zV := by unfold keyV; rw [if_neg h]
theorem key_on {vs : List Vl} {ps : List Int} {j : Nat} {p : Int} (h : ps[j]? = some p) : keyT vs (ps.take (j + 1)) = keyT vs (ps.take j) ++ [keyV vs p] := take_map_on h
theorem elemV : ElemN Tryd.prog tVs tV 3 32 := ElemN.of (z := .agg #[.int .i64 0, .int .i64 0, .string ⟨#[]⟩]) (by kernel_rfl) (by kernel_rfl) rfl (by decide)
theorem vals_grown {V w0 w' : World} {v : Value} {n : Nat} {us : List Value} {o : Obj} (hown : w0.ownsRow V.heap.size tV 3 v n us) (hb : Below V.heap.size V w0) (g : (w0.alloc o).grownBy w' v.ownBlock) : Below V.heap.size V w' := by
  have hb1 := al hb o
  exact hb1.trans ⟨g.os, g.tape, g.output, g.size, fun j hj => g.block j (by have := hb1.size; omega) (fun e => by have := (hown.lt j e.symm).1; omega)⟩
theorem ints_at {w : World} {B : Nat} {A : Option Addr} {ps : List Int} (h : Row w B A (ps.map (Value.int .i64))) {j : Nat} (hj : j < ps.length) : ∃ b o p, A = some ⟨b, o, none⟩ ∧ b < B ∧ ps[j]? = some p ∧ w.cell? ⟨b, o + j, none⟩ = some (.int .i64 p) := by
  obtain ⟨p, hp⟩ := some_at rfl hj
  obtain ⟨b, o, h1, h2, h3⟩ := h j (.int .i64 p) (by rw [List.getElem?_map, hp]; rfl)
  exact ⟨b, o, p, h1, h2, hp, h3⟩
/-- What Key leaves: these values, in a list of the call's own. -/
def KeyD (vs : List Vl) (ps : List Int) (w : World) (e : Ending) (w' : World) : Prop := ∃ A' n' c', e = .returned (.slice A' n' c') ∧ n' = ps.length ∧ Vals w' w'.heap.size A' (keyT vs ps) ∧ Below w.heap.size w w'
section
variable {A C : Option Addr} {c d : Nat} {vs : List Vl} {ps : List Int} {w : World}
set_option maxHeartbeats 4000000 in
theorem refKey_any (n m : Nat) (hn : vs.length = n) (hm : ps.length = m) (hN : n ≤ 1000) (hM : m ≤ 1000) (h : Vals w w.heap.size A vs) (h2 : Row w w.heap.size C (ps.map (Value.int .i64))) : Calls Tryd.prog 27 #[.slice A n c, .slice C m d] w (KeyD vs ps w) := by
  have HN := Lib.hid hn
  have HM := Lib.hid hm
  have H := Lib.hid h
  have H2 := Lib.hid h2
  clear hn hm h h2
  go_enter Tryd.func27, Tryd.ntmps27
  go_wp2
  go_loopw [6, 5] (fun i u wr => ∃ (j : Nat) (v : Value), j ≤ m ∧ i = .int .i64 (j : Int) ∧ u = v ∧ Hid (wr.ownsRow w.heap.size tV 3 v j (cellsAll (keyT vs (ps.take j)))) ∧ Hid (Below w.heap.size w wr)) (fun i _ _ => m + 1 - (intOf i).toNat)
  case atStart => exact ⟨0, _, Nat.zero_le _, rfl, rfl, Lib.hid ⟨rfl, .inl ⟨rfl, rfl⟩⟩, Lib.hid (Below.refl _ _)⟩
  case round =>
    obtain ⟨j, v, hj, rfl, rfl, HO, HB⟩ := hrel
    by_cases hlt : j < m
    · --<
      have tl : decide ((j : Int) < (m : Int)) = true := decide_eq_true (by omega)
      have tl2 : decide (j < m) = true := decide_eq_true hlt
      obtain ⟨b2, o2, p, hC, hb2, hp, q0⟩ := ints_at (H2.out.below HB.out (Nat.le_refl _)) (j := j) (by have := HM.out; omega)
      subst hC
      have HP := Lib.hid (key_on (vs := vs) hp)
      clear hp
      by_cases hr : 0 ≤ p ∧ p < (n : Int)
      · obtain ⟨p, rfl⟩ : ∃ q : Nat, p = (q : Int) := ⟨p.toNat, by omega⟩
        have hlp : p < n := by omega
        obtain ⟨b, o, x, rfl, hb, hv, c0, c1, c2⟩ := (H.out.below HB.out (Nat.le_refl _)).at_ (k := p) (by have := HN.out; omega)
        have HK := Lib.hid (show keyT vs (ps.take (j + 1)) = keyT vs (ps.take j) ++ [x] from by rw [HP.out, keyV_in hv])
        have t1 : decide (0 ≤ (p : Int)) = true := decide_eq_true (by omega)
        have t2 : decide ((p : Int) < (n : Int)) = true := decide_eq_true (by omega)
        have t3 : decide (p < n) = true := decide_eq_true hlp
        clear hv hr
        go_wp2_with (at_builtin; refine wp_val elemV w.heap.size rfl (.tmp 27) (.tmp 35) rfl rfl rfl HO.out rfl (by omega) (by omega) HB.out.size ?_; intro v3 w3 g1 g2 g3; have HR := Lib.hid g1; have HB3 := Lib.hid (vals_grown HO.out HB.out g2); clear g1 g2 g3)
        go_roundw
        case rel => exact ⟨j + 1, _, by omega, by go_num, rfl, by rw [HK.out]; exact HR, HB3⟩
        case measure => simp [intOf]; omega
      · have HK := Lib.hid (show keyT vs (ps.take (j + 1)) = keyT vs (ps.take j) ++ [zV] from by rw [HP.out, keyV_out (by rw [HN.out]; exact hr)])
        by_cases h0 : 0 ≤ p
        · have t1 : decide (0 ≤ p) = true := decide_eq_true h0
          have t2 : decide (p < (n : Int)) = false := decide_eq_false (by omega)
          clear hr h0
          go_wp2_with (at_builtin; refine wp_val (x := zV) elemV w.heap.size rfl (.tmp 37) (.tmp 39) rfl rfl rfl HO.out rfl (by omega) (by omega) HB.out.size ?_; intro v3 w3 g1 g2 g3; have HR := Lib.hid g1; have HB3 := Lib.hid (vals_grown HO.out HB.out g2); clear g1 g2 g3)
          go_roundw
          case rel => exact ⟨j + 1, _, by omega, by go_num, rfl, by rw [HK.out]; exact HR, HB3⟩
          case measure => simp [intOf]; omega
        · have t1 : decide (0 ≤ p) = false := decide_eq_false h0
          clear hr h0
          go_wp2_with (at_builtin; refine wp_val (x := zV) elemV w.heap.size rfl (.tmp 37) (.tmp 39) rfl rfl rfl HO.out rfl (by omega) (by omega) HB.out.size ?_; intro v3 w3 g1 g2 g3; have HR := Lib.hid g1; have HB3 := Lib.hid (vals_grown HO.out HB.out g2); clear g1 g2 g3)
          go_roundw
          case rel => exact ⟨j + 1, _, by omega, by go_num, rfl, by rw [HK.out]; exact HR, HB3⟩
          case measure => simp [intOf]; omega
      -->
    · have tl : decide ((j : Int) < (m : Int)) = false := decide_eq_false (by omega)
      have tl2 : decide (j < m) = false := decide_eq_false hlt
      obtain rfl : j = m := by omega
      have hk := HO.out
      rw [List.take_of_length_le (by have := HM.out; omega)] at hk
      have HK := Lib.hid hk
      clear hk
      obtain ⟨A', c', rfl, hv, hk⟩ := Vals.own HK.out
      have HV := Lib.hid hv
      clear hv hk
      go_wp2
      go_ret
      exact ⟨A', j, c', rfl, HM.out.symm, HV.out, HB.out⟩
theorem made_zero : ∀ n : Nat, (madeCells #[.int .i64 0, .int .i64 0, .string ⟨#[]⟩] (n * 3)).toList = cellsAll (List.replicate n zV)
  | 0 => by simp [madeCells, cellsAll]
  | n + 1 => by
    have ih := made_zero n
    rw [List.replicate_succ', ← cellsAll_snoc, ← ih]
    unfold madeCells
    rw [show (n + 1) * 3 = n * 3 + 1 + 1 + 1 by omega]
    simp only [Array.toList_map, Array.toList_range, List.range_succ, List.map_append, List.map_cons, List.map_nil, List.append_assoc]
    have e0 : n * 3 % 3 = 0 := by omega
    have e1 : (n * 3 + 1) % 3 = 1 := by omega
    have e2 : (n * 3 + 1 + 1) % 3 = 2 := by omega
    simp [e0, e1, e2, cells3, zV]
theorem make_vals (n : Nat) (hn : n ≤ 1000) (w : World) : (Instr.makeSlice tVs (.int .i64 (n : Int)) (.int .i64 (n : Int))).run Tryd.prog w = .ok (.slice (some ⟨w.heap.size, 0, none⟩) n n) (w.alloc (.cells (cellsAll (List.replicate n zV)).toArray tV)) := by
  obtain ⟨i, z, ht, hi, hz, hz1, hz2, hzc, hpos⟩ := elemV
  have hr := run_make (P := Tryd.prog) w tVs tV i z ht hi hz .i64 .i64 n n (by omega) (by omega) (by rw [hz2]; omega) (by omega)
  have hzv : z = .agg #[.int .i64 0, .int .i64 0, .string ⟨#[]⟩] := by
    have h1 : (Tryd.prog.info? tV).map (·.zero) = some (some (.agg #[.int .i64 0, .int .i64 0, .string ⟨#[]⟩])) := by kernel_rfl
    rw [hi] at h1
    simp only [Option.map_some, hz] at h1
    exact Option.some.inj (Option.some.inj h1)
  rw [hr]
  simp only [Int.toNat_natCast]
  subst hzv
  rw [hz1, ← made_zero n]
  rfl
theorem cells_set : ∀ (L : List Vl) (j : Nat) (v : Vl), (((cellsAll L).set (j * 3) (.int .i64 v.k)).set (j * 3 + 1) (.int .i64 v.n)).set (j * 3 + 2) (.string v.s) = cellsAll (L.set j v)
  | [], j, v => rfl
  | u :: r, 0, v => by
    have e : ∀ x : Vl, cellsAll (x :: r) = .int .i64 x.k :: .int .i64 x.n :: .string x.s :: cellsAll r := fun x => rfl
    rw [List.set_cons_zero, e u, e v]
    rfl
  | u :: r, j + 1, v => by
    have e : ∀ (x : Vl) (r : List Vl), cellsAll (x :: r) = .int .i64 x.k :: .int .i64 x.n :: .string x.s :: cellsAll r := fun x r => rfl
    rw [List.set_cons_succ, e u r, e u (r.set j v), ← cells_set r j v, show (j + 1) * 3 = j * 3 + 1 + 1 + 1 by omega]
    rfl
theorem cel_val {w : World} {g : Nat} {L : List Vl} (h : Cel w g tV (cellsAll L).toArray) (j : Nat) (v : Vl) : Cel (w.setCells g (j * 3) (cells3 v)) g tV (cellsAll (L.set j v)).toArray := by
  have h1 := ((Cel.set h (j * 3) (.int .i64 v.k)).set (j * 3 + 1) (.int .i64 v.n)).set (j * 3 + 2) (.string v.s)
  have e : (((cellsAll L).toArray.setIfInBounds (j * 3) (.int .i64 v.k)).setIfInBounds (j * 3 + 1) (.int .i64 v.n)).setIfInBounds (j * 3 + 2) (.string v.s) = (cellsAll (L.set j v)).toArray := by
    rw [← cells_set L j v]; simp
  rw [e] at h1
  exact h1
theorem vals_cel {w : World} {g : Nat} {L : List Vl} (h : Cel w g tV (cellsAll L).toArray) : Vals w w.heap.size (some ⟨g, 0, none⟩) L := by
  intro j v hj
  obtain ⟨h0, h1, h2⟩ := cellsAll_at hj
  refine ⟨g, 0, rfl, h.lt, ?_, ?_, ?_⟩
  · rw [Nat.zero_add, h.at_]; simpa using h0
  · rw [Nat.zero_add, h.at_]; simpa using h1
  · rw [Nat.zero_add, h.at_]; simpa using h2
/-- The first j places are filled. -/
def Filled (vs : List Vl) (ps : List Int) (j : Nat) (L : List Vl) : Prop := L.length = ps.length ∧ (∀ i, i < j → L[i]? = (keyT vs ps)[i]?) ∧ ∀ i, j ≤ i → i < ps.length → L[i]? = some zV
theorem filled_0 (vs : List Vl) (ps : List Int) : Filled vs ps 0 (List.replicate ps.length zV) := ⟨by simp, fun i h => absurd h (by omega), fun i _ h => by rw [List.getElem?_replicate, if_pos h]⟩
theorem filled_set {vs : List Vl} {ps : List Int} {j : Nat} {L : List Vl} {p : Int} (h : Filled vs ps j L) (hp : ps[j]? = some p) : Filled vs ps (j + 1) (L.set j (keyV vs p)) := by
  have hl := (List.getElem?_eq_some_iff.1 hp).1
  refine ⟨by rw [List.length_set]; exact h.1, fun i hi => ?_, fun i hi hn => ?_⟩
  · by_cases e : i = j
    · subst e
      rw [List.getElem?_set_self (by rw [h.1]; exact hl)]
      unfold keyT
      rw [List.getElem?_map, hp]; rfl
    · rw [List.getElem?_set_ne (by omega)]; exact h.2.1 i (by omega)
  · rw [List.getElem?_set_ne (by omega)]; exact h.2.2 i (by omega) hn
theorem filled_skip {vs : List Vl} {ps : List Int} {j : Nat} {L : List Vl} {p : Int} (h : Filled vs ps j L) (hp : ps[j]? = some p) (hk : keyV vs p = zV) : Filled vs ps (j + 1) L := by
  have hl := (List.getElem?_eq_some_iff.1 hp).1
  refine ⟨h.1, fun i hi => ?_, fun i hi hn => h.2.2 i (by omega) hn⟩
  by_cases e : i = j
  · subst e
    rw [h.2.2 i (Nat.le_refl _) hl]
    unfold keyT
    rw [List.getElem?_map, hp, Option.map_some, hk]
  · exact h.2.1 i (by omega)
theorem filled_all {vs : List Vl} {ps : List Int} {L : List Vl} (h : Filled vs ps ps.length L) : L = keyT vs ps := by
  refine List.ext_getElem? fun i => ?_
  by_cases hi : i < ps.length
  · exact h.2.1 i hi
  · rw [List.getElem?_eq_none (by rw [h.1]; omega), List.getElem?_eq_none (by unfold keyT; rw [List.length_map]; omega)]
set_option maxHeartbeats 4000000 in
theorem key_any (n m : Nat) (hn : vs.length = n) (hm : ps.length = m) (hN : n ≤ 1000) (hM : m ≤ 1000) (h : Vals w w.heap.size A vs) (h2 : Row w w.heap.size C (ps.map (Value.int .i64))) : Calls Tryd.prog 26 #[.slice A n c, .slice C m d] w (KeyD vs ps w) := by
  have HN := Lib.hid hn
  have HM := Lib.hid hm
  have H := Lib.hid h
  have H2 := Lib.hid h2
  have hmk := make_vals m hM
  obtain ⟨V, hV⟩ : ∃ V, w.alloc (.cells (cellsAll (List.replicate m zV)).toArray tV) = V := ⟨_, rfl⟩
  have HV := Lib.hid (show Below w.heap.size w V from by rw [← hV]; exact al (Below.refl _ _) _)
  have HC0 := Lib.hid (show Cel V w.heap.size tV (cellsAll (List.replicate m zV)).toArray from by rw [← hV]; exact Cel.new _ _ _ rfl)
  clear hn hm h h2
  go_enter Tryd.func26, Tryd.ntmps26
  go_wp2
  clear hmk
  go_loopw [13] (fun i wr => ∃ (j : Nat) (L : List Vl), j ≤ m ∧ i = .int .i64 (j : Int) ∧ Hid (Filled vs ps j L) ∧ Hid (Cel wr w.heap.size tV (cellsAll L).toArray) ∧ Hid (Below w.heap.size w wr)) (fun i _ => m + 1 - (intOf i).toNat)
  case atStart => exact ⟨0, _, Nat.zero_le _, rfl, Lib.hid (HM.out ▸ filled_0 vs ps), HC0, HV⟩
  case round =>
    obtain ⟨j, L, hj, rfl, HF, HC, HB⟩ := hrel
    by_cases hlt : j < m
    · --<
      have tl : decide ((j : Int) < (m : Int)) = true := decide_eq_true (by omega)
      have tl2 : decide (j < m) = true := decide_eq_true hlt
      obtain ⟨b2, o2, p, hC, hb2, hp, q0⟩ := ints_at (H2.out.below HB.out (Nat.le_refl _)) (j := j) (by have := HM.out; omega)
      subst hC
      by_cases hr : 0 ≤ p ∧ p < (n : Int)
      · obtain ⟨p, rfl⟩ : ∃ q : Nat, p = (q : Int) := ⟨p.toNat, by omega⟩
        have hlp : p < n := by omega
        obtain ⟨b, o, x, rfl, hb, hv, c0, c1, c2⟩ := (H.out.below HB.out (Nat.le_refl _)).at_ (k := p) (by have := HN.out; omega)
        have HK := Lib.hid (show Filled vs ps (j + 1) (L.set j x) from by have := filled_set HF.out hp; rwa [keyV_in hv] at this)
        have HS := Lib.hid (cel_val HC.out j x)
        have HS2 := Lib.hid (show Below w.heap.size w (wr.setCells w.heap.size (j * 3) (cells3 x)) from ((HB.out.setCell (p := ⟨w.heap.size, j * 3, none⟩) (Nat.le_refl _) _).setCell (p := ⟨w.heap.size, j * 3 + 1, none⟩) (Nat.le_refl _) _).setCell (p := ⟨w.heap.size, j * 3 + 2, none⟩) (Nat.le_refl _) _)
        obtain ⟨y, hy⟩ := some_at (HF.out.1.trans HM.out) hlt
        obtain ⟨a0, a1, a2⟩ := cellsAll_at hy
        have z0 : wr.cell? ⟨w.heap.size, j * 3, none⟩ = some (.int .i64 y.k) := by rw [HC.out.at_]; simpa using a0
        have z1 : wr.cell? ⟨w.heap.size, j * 3 + 1, none⟩ = some (.int .i64 y.n) := by rw [HC.out.at_]; simpa using a1
        have z2 : wr.cell? ⟨w.heap.size, j * 3 + 2, none⟩ = some (.string y.s) := by rw [HC.out.at_]; simpa using a2
        have k0 := HC.out.open_ (j * 3)
        have k1 := HC.out.open_ (j * 3 + 1)
        have k2 := HC.out.open_ (j * 3 + 2)
        have C1 := Cel.set HC.out (j * 3) (.int .i64 x.k)
        have C2 := Cel.set C1 (j * 3 + 1) (.int .i64 x.n)
        have x1 : (wr.setCell ⟨w.heap.size, j * 3, none⟩ (.int .i64 x.k)).cell? ⟨w.heap.size, j * 3 + 1, none⟩ = some (.int .i64 y.n) := by rw [C1.at_, Array.getElem?_setIfInBounds_ne (by omega)]; simpa using a1
        have x2 : ((wr.setCell ⟨w.heap.size, j * 3, none⟩ (.int .i64 x.k)).setCell ⟨w.heap.size, j * 3 + 1, none⟩ (.int .i64 x.n)).cell? ⟨w.heap.size, j * 3 + 2, none⟩ = some (.string y.s) := by rw [C2.at_, Array.getElem?_setIfInBounds_ne (by omega), Array.getElem?_setIfInBounds_ne (by omega)]; simpa using a2
        have l1 := C1.open_ (j * 3 + 1)
        have l2 := C2.open_ (j * 3 + 2)
        clear C1 C2 a0 a1 a2 hy
        have t1 : decide (0 ≤ (p : Int)) = true := decide_eq_true (by omega)
        have t2 : decide ((p : Int) < (n : Int)) = true := decide_eq_true (by omega)
        have t3 : decide (p < n) = true := decide_eq_true hlp
        clear hv hr hp
        go_wp2
        go_roundw
        case rel => exact ⟨j + 1, _, by omega, by go_num, HK, HS, HS2⟩
        case measure => simp [intOf]; omega
      · have HK := Lib.hid (filled_skip HF.out hp (keyV_out (by rw [HN.out]; exact hr)))
        by_cases h0 : 0 ≤ p
        · have t1 : decide (0 ≤ p) = true := decide_eq_true h0
          have t2 : decide (p < (n : Int)) = false := decide_eq_false (by omega)
          clear hr h0 hp
          go_wp2
          go_roundw
          case rel => exact ⟨j + 1, _, by omega, by go_num, HK, HC, HB⟩
          case measure => simp [intOf]; omega
        · have t1 : decide (0 ≤ p) = false := decide_eq_false h0
          clear hr h0 hp
          go_wp2
          go_roundw
          case rel => exact ⟨j + 1, _, by omega, by go_num, HK, HC, HB⟩
          case measure => simp [intOf]; omega
      -->
    · have tl : decide ((j : Int) < (m : Int)) = false := decide_eq_false (by omega)
      have tl2 : decide (j < m) = false := decide_eq_false hlt
      obtain rfl : j = m := by omega
      have HK := Lib.hid (show Vals wr wr.heap.size (some ⟨w.heap.size, 0, none⟩) (keyT vs ps) from by have h1 := HF.out; rw [← HM.out] at h1; rw [← filled_all h1]; exact vals_cel HC.out)
      go_wp2
      go_ret
      exact ⟨_, j, j, rfl, HM.out.symm, HK.out, HB.out⟩
/-- Two lists of the same values are the same. -/
theorem vsame_yes (A C : Option Addr) (n m ca cb : Nat) (hnm : n = m) (vs : List Vl) (w : World) (hn : vs.length = n) (hN : n ≤ 9223372036854775807) (h1 : Vals w w.heap.size A vs) (h2 : Vals w w.heap.size C vs) :
    Calls Tryd.prog 25 #[.slice A n ca, .slice C m cb] w fun e w' => e = .returned (.bool true) ∧ Below w.heap.size w w' := by
  subst hnm
  have H1 := Lib.hid h1
  have H2 := Lib.hid h2
  have HN := Lib.hid hn
  clear h1 h2 hn
  go_enter Tryd.func25, Tryd.ntmps25
  go_wp2
  go_loopw [5] (fun i wr => ∃ k : Nat, k ≤ n ∧ i = .int .i64 k ∧ Hid (Below w.heap.size w wr)) (fun i _ => n - (intOf i).toNat)
  case atStart => exact ⟨0, Nat.zero_le _, rfl, Lib.hid (Below.refl _ _)⟩
  case round =>
    obtain ⟨k, hk, rfl, HB⟩ := hrel
    by_cases hlt : k < n
    · obtain ⟨b, o, v, rfl, hb, hv, c0, c1, c2⟩ := (H1.out.below HB.out (Nat.le_refl _)).at_ (k := k) (by have := HN.out; omega)
      obtain ⟨b', o', v', rfl, hb', hv', d0, d1, d2⟩ := (H2.out.below HB.out (Nat.le_refl _)).at_ (k := k) (by have := HN.out; omega)
      obtain rfl : v = v' := by rw [hv] at hv'; injection hv'
      clear hv hv'
      have hlt' : (k : Int) < (n : Int) := by omega
      go_wp2
      go_quiet (fail)
      go_wp2
      go_roundw
      case rel => exact ⟨k + 1, by omega, by go_num, Lib.hid (below_drewN HB.out _)⟩
      case measure => simp [intOf]; omega
    · go_wp2
      go_ret
      exact ⟨rfl, HB.out⟩
end
end Go.Proofs.YtjehhgilpadeiaaDoor.Tk
