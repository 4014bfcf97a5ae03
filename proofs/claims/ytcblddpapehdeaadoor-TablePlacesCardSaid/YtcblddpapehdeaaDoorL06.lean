/- What the questions about one byte answer. A variable of a row's list, wherever it stands on it: an array of texts, cell by cell. The table of signs, as the row lays it, and how long the sign is with which a text begins. A table that came in as an argument. -/
import Derived.Test.YtcblddpapehdeaaDoorL01
import Derived.Test.YtcblddpapehdeaaDoorL04
import Derived.Lib.LaidTab
import Derived.MakeChecks
import Derived.OpenShut
import Derived.Test.YtcblddpapehdeaaDoorL02
import Derived.Test.YtcblddpapehdeaaDoorL05
namespace Go.Proofs.YtcblddpapehdeaaDoor.Lx
open Go.RowKit Go.Proofs.YtcblddpapehdeaaDoor.Mem Go.Proofs.YtcblddpapehdeaaDoor.Right
set_option linter.unusedVariables false
theorem small_any (c : UInt8) (w : World) : Calls Tryd.prog 172 #[.int .u8 (c.toNat : Int)] w fun e w' => e = .returned (.bool (small c)) ∧ w = w' := by
  have H := small_num c
  cases h : decide (97 ≤ (c.toNat : Int)) with
  | true =>
    rw [h, Bool.true_and] at H
    have H := Lib.hid H
    go_enter Tryd.func172, Tryd.ntmps172
    go_wp2
    go_ret
    exact ⟨rb H.out.symm, rfl⟩
  | false =>
    rw [h, Bool.false_and] at H
    have H := Lib.hid H
    go_enter Tryd.func172, Tryd.ntmps172
    go_wp2
    go_ret
    exact ⟨rb H.out.symm, rfl⟩
theorem cap_any (c : UInt8) (w : World) : Calls Tryd.prog 175 #[.int .u8 (c.toNat : Int)] w fun e w' => e = .returned (.bool (cap c)) ∧ w = w' := by
  have H := cap_num c
  cases h : decide (65 ≤ (c.toNat : Int)) with
  | true =>
    rw [h, Bool.true_and] at H
    have H := Lib.hid H
    go_enter Tryd.func175, Tryd.ntmps175
    go_wp2
    go_ret
    exact ⟨rb H.out.symm, rfl⟩
  | false =>
    rw [h, Bool.false_and] at H
    have H := Lib.hid H
    go_enter Tryd.func175, Tryd.ntmps175
    go_wp2
    go_ret
    exact ⟨rb H.out.symm, rfl⟩
theorem dig_any (c : UInt8) (w : World) : Calls Tryd.prog 177 #[.int .u8 (c.toNat : Int)] w fun e w' => e = .returned (.bool (dig c)) ∧ w = w' := by
  have H := dig_num c
  cases h : decide (48 ≤ (c.toNat : Int)) with
  | true =>
    rw [h, Bool.true_and] at H
    have H := Lib.hid H
    go_enter Tryd.func177, Tryd.ntmps177
    go_wp2
    go_ret
    exact ⟨rb H.out.symm, rfl⟩
  | false =>
    rw [h, Bool.false_and] at H
    have H := Lib.hid H
    go_enter Tryd.func177, Tryd.ntmps177
    go_wp2
    go_ret
    exact ⟨rb H.out.symm, rfl⟩
theorem inKey_any (c : UInt8) (w : World) : Calls Tryd.prog 176 #[.int .u8 (c.toNat : Int)] w fun e w' => e = .returned (.bool (inKey c)) ∧ w = w' := by
  have H : inKey c = (cap c || ((c.toNat : Int) == 95)) := by unfold inKey; rw [eq_byte]; rfl
  cases h : cap c with
  | true =>
    rw [h, Bool.true_or] at H
    have H := Lib.hid H
    go_enter Tryd.func176, Tryd.ntmps176
    go_wp2_with (go_at_call 175; refine (cap_any c _).mono ?_; rintro e w' ⟨rfl, rfl⟩)
    go_ret
    exact ⟨rb H.out.symm, rfl⟩
  | false =>
    rw [h, Bool.false_or] at H
    have H := Lib.hid H
    go_enter Tryd.func176, Tryd.ntmps176
    go_wp2_with (go_at_call 175; refine (cap_any c _).mono ?_; rintro e w' ⟨rfl, rfl⟩)
    go_ret
    exact ⟨rb H.out.symm, rfl⟩
theorem inName_any (c : UInt8) (w : World) : Calls Tryd.prog 174 #[.int .u8 (c.toNat : Int)] w fun e w' => e = .returned (.bool (inName c)) ∧ w = w' := by
  have H : inName c = (small c || dig c || ((c.toNat : Int) == 95)) := by unfold inName; rw [eq_byte]; rfl
  cases h : small c with
  | true =>
    rw [h, Bool.true_or, Bool.true_or] at H
    have H := Lib.hid H
    go_enter Tryd.func174, Tryd.ntmps174
    go_wp2_with (first | (go_at_call 172; refine (small_any c _).mono ?_; rintro e w' ⟨rfl, rfl⟩) | (go_at_call 177; refine (dig_any c _).mono ?_; rintro e w' ⟨rfl, rfl⟩))
    go_ret
    exact ⟨rb H.out.symm, rfl⟩
  | false =>
    rw [h, Bool.false_or] at H
    cases h2 : dig c with
    | true =>
      rw [h2, Bool.true_or] at H
      have H := Lib.hid H
      go_enter Tryd.func174, Tryd.ntmps174
      go_wp2_with (first | (go_at_call 172; refine (small_any c _).mono ?_; rintro e w' ⟨rfl, rfl⟩) | (go_at_call 177; refine (dig_any c _).mono ?_; rintro e w' ⟨rfl, rfl⟩))
      go_ret
      exact ⟨rb H.out.symm, rfl⟩
    | false =>
      rw [h2, Bool.false_or] at H
      have H := Lib.hid H
      go_enter Tryd.func174, Tryd.ntmps174
      go_wp2_with (first | (go_at_call 172; refine (small_any c _).mono ?_; rintro e w' ⟨rfl, rfl⟩) | (go_at_call 177; refine (dig_any c _).mono ?_; rintro e w' ⟨rfl, rfl⟩))
      go_ret
      exact ⟨rb H.out.symm, rfl⟩
/-- No kind, if the size is nothing. -/
theorem orNone_any (k n : Nat) (w : World) : Calls Tryd.prog 178 #[.int .i64 (k : Int), .int .i64 (n : Int)] w fun e w' => e = .returned (.tuple #[.int .i64 ((orN k n).1 : Int), .int .i64 ((orN k n).2 : Int)]) ∧ w = w' := by
  by_cases h : n = 0
  · subst h
    go_enter Tryd.func178, Tryd.ntmps178
    go_wp2
    go_ret2
    exact ⟨rfl, rfl⟩
  · have H := Lib.hid (show orN k n = (k, n) from if_neg h)
    have t : ((n : Int) == 0) = false := beq_no (by omega)
    clear h
    go_enter Tryd.func178, Tryd.ntmps178
    go_wp2
    go_ret2
    exact ⟨by rw [H.out]; rfl, rfl⟩
end Go.Proofs.YtcblddpapehdeaaDoor.Lx
namespace Go.Proofs.YtcblddpapehdeaaDoor.Mem
open Go.RowKit
set_option linter.unusedVariables false
/-- What a listed variable reads as. -/
theorem laid_var {P : Program} {w : World} {n : String} {d : DataW Unit} : ∀ {l : List (String × DataW Unit)} {ps : List MemPlace}, DataW.LaidVars P w l ps → (n, d) ∈ l →
    ∃ g t cs fuel p, P.globalNamed n = some g ∧ (P.globals[g]?).map (·.type) = some t ∧ w.var? P n = some cs ∧ DataW.trod (fun _ => ()) P w 0 (fun _ => true) false fuel t cs.toList = some (d, p)
  | [], _, _, h => by simp at h
  | (n', d') :: r, ps, h, hm => by
    obtain ⟨g, t, cs, fuel, p, q, h1, h2, h3, h4, h5, _⟩ := h
    rcases List.mem_cons.1 hm with e | hm
    · injection e with e1 e2
      subst e1 e2
      exact ⟨g, t, cs, fuel, p, h1, h2, h3, h4⟩
    · exact laid_var h5 hm
/-- An array of texts on the list. -/
theorem laid_texts {P : Program} {W : World} {l : List (String × DataW Unit)} {name : String} {L : List (List UInt8)} {g : Nat} {tA tS : TypeId} {N : Nat} (h : laidMetH P l W) (hp : (l.all fun x => x.2.handleName?.isNone) = true)
    (hm : (name, (DataW.agg (L.map fun l => .lit (.string l)) : DataW Unit)) ∈ l) (hg : P.globalNamed name = some g) (ht : (P.globals[g]?).map (·.type) = some tA) (hu : P.underlying tA = some (.array N tS)) (hs : P.underlying tS = some .string) (c1 : P.cellsOf tS = 1) (hN : L.length = N) :
    ∀ (k : Nat) (v : Value), (L.map fun l => Value.string ⟨l.toArray⟩)[k]? = some v → W.cell? ⟨g, k, none⟩ = some v := by
  rw [MakeChecks.laidMetH_plain _ _ _ hp] at h
  obtain ⟨ps, hv, _, _⟩ := h
  obtain ⟨g0, t0, cs0, f0, p0, hg0, ht0, hv0, hd0⟩ := laid_var hv hm
  obtain rfl := Option.some.inj (hg.symm.trans hg0)
  obtain rfl := Option.some.inj (ht.symm.trans ht0)
  obtain ⟨xs, m1, rfl, hx1, hlen, hn, hel⟩ := DataW.trod_array hu hd0
  have hxs : xs.map (·.1) = L.map fun l => (DataW.lit (.string l) : DataW Unit) := by
    have h1 : (DataW.agg (L.map fun l => (DataW.lit (.string l) : DataW Unit))) = DataW.agg (xs.map (·.1)) := congrArg Prod.fst hx1
    injection h1 with h1
    exact h1.symm
  intro k v hv
  rw [List.getElem?_map] at hv
  obtain ⟨l, hl, rfl⟩ := Option.map_eq_some_iff.1 hv
  obtain ⟨hk, _⟩ := List.getElem?_eq_some_iff.1 hl
  have h1 := hel k (by omega)
  rw [c1, Nat.mul_one] at h1
  have hxk : k < xs.length := by rw [hn]; omega
  rw [List.getElem?_eq_getElem hxk] at h1
  obtain ⟨z, hz, hx, _⟩ := DataW.trod_string hs h1
  have h2 : (xs.map (·.1))[k]? = some (DataW.lit (.string z.data.toList) : DataW Unit) := by
    rw [List.getElem?_map, List.getElem?_eq_getElem hxk, hx]; rfl
  rw [hxs, List.getElem?_map, hl] at h2
  injection h2 with h2
  injection h2 with h2
  injection h2 with h2
  have e : z = ⟨l.toArray⟩ := by
    obtain ⟨⟨z⟩⟩ := z
    simp at h2
    rw [h2]
  have h3 : cs0.toList[k]? = some (.string z) := by
    have := congrArg (·[0]?) hz
    simpa [List.getElem?_take, List.getElem?_drop] using this
  have := World.var?_cell hg0 hv0 k
  rw [this, ← e]
  simpa using h3
end Go.Proofs.YtcblddpapehdeaaDoor.Mem
namespace Go.Proofs.YtcblddpapehdeaaDoor.Lx
open Go.RowKit Go.Proofs.YtcblddpapehdeaaDoor.Mem Go.Proofs.YtcblddpapehdeaaDoor.Right
set_option linter.unusedVariables false
/-- All signs. -/
def sgs : List (List UInt8) := [[40], [41], [44], [61], [60, 62], [60], [60, 61], [62], [62, 61], [43], [45], [42], [47], [37], [124, 124]]
def SG : List Value := sgs.map fun l => .string ⟨l.toArray⟩
/-- The variable holds them. -/
def Signs (w : World) : Prop := ∀ (k : Nat) (v : Value), SG[k]? = some v → w.cell? ⟨0, k, none⟩ = some v
theorem Signs.below {w w' : World} {B : Nat} (h : Signs w) (hb : Below B w w') (hB : 0 < B) : Signs w' := fun k v hv => (hb.cell hB).trans (h k v hv)
theorem Signs.lt {w : World} (h : Signs w) : 0 < w.heap.size := cell_lt (h 0 _ rfl)
/-- From the row's condition to the cells. -/
theorem signs_of_laid {l : List (String × DataW Unit)} {W : World} (h : laidMetH Tryd.prog l W) (hp : (l.all fun x => x.2.handleName?.isNone) = true) (hm : ("registrar/lex.signs", (Rows.laid_registrar_lex_signs : DataW Unit)) ∈ l) : Signs W :=
  laid_texts (L := sgs) h hp hm (by kernel_rfl) (by kernel_rfl) Tryd.underlying207 Tryd.underlying9 (by kernel_rfl) rfl
end Go.Proofs.YtcblddpapehdeaaDoor.Lx
namespace Go.Proofs.YtcblddpapehdeaaDoor.Tm
open Go.ChangeShapes Go.WideShapes Go.ChangeAt Go.RowKit Go.Proofs.YtcblddpapehdeaaDoor.Mem Go.Proofs.YtcblddpapehdeaaDoor.Ep Go.Proofs.YtcblddpapehdeaaDoor.Sm Go.Proofs.YtcblddpapehdeaaDoor.Right Go.Proofs.YtcblddpapehdeaaDoor.Lx
set_option linter.unusedVariables false
theorem hasTb : HasT Tryd.prog 3 9 4 32 54 51 52 49 22 56 23 58 24 26 where
  c := {
    b := ⟨Tryd.underlying3, Tryd.underlying9, Tryd.underlying4, Tryd.underlying32, by kernel_rfl⟩
    e := Ep.hasEx
    co := ⟨_, Tryd.underlying49, by kernel_rfl, by kernel_rfl⟩
    cos := ⟨Tryd.underlying22, by kernel_rfl⟩
    cn := ⟨_, Tryd.underlying56, by kernel_rfl, by kernel_rfl⟩
    cns := ⟨Tryd.underlying23, by kernel_rfl⟩ }
  ix := ⟨_, Tryd.underlying58, by kernel_rfl, by kernel_rfl⟩
  ixs := ⟨Tryd.underlying24, by kernel_rfl⟩
  t := ⟨_, Tryd.underlying26, by kernel_rfl, by kernel_rfl⟩
section
variable {H : Type} {enc : TypeId × Value → H} {W : World}
set_option maxRecDepth 100000 in
theorem open_tbv {r : Reach} {b0 : Nat} {v : Value} {d : DataW H} {p : List MemPlace} (hv : Value.okWide Tryd.prog W r b0 26 v) (h : DataW.Trod enc Tryd.prog W 0 (fun _ => true) true 26 v d p) :
    ∃ cs x, v = .agg (List.toArray cs) ∧ DtIn W (fun b => b < W.heap.size) (tbDt x) cs ∧ fTb x := by
  obtain ⟨cs, rfl, hsz⟩ := okWide_struct Tryd.underlying26 hv
  obtain ⟨fuel, hf⟩ := h
  obtain ⟨d, h1, h2⟩ := open_dt fuel 26 cs.toList _ hf
  obtain ⟨x, rfl, hx⟩ := shp_tb hasTb h2
  exact ⟨cs.toList, x, rfl, h1, hx⟩
end
end Go.Proofs.YtcblddpapehdeaaDoor.Tm
