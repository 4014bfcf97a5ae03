/- Columns' places: what the document answers. The lists of columns that constraints and indexes have: what the document answers. -/
import Derived.Test.YtcblddpapehdeaaDoorC19
import Derived.Test.YtcblddpapehdeaaDoorC12
namespace Go.Proofs.YtcblddpapehdeaaDoor.Tk
open Go.RowKit Go.Proofs.YtcblddpapehdeaaDoor.Mem Go.Proofs.YtcblddpapehdeaaDoor.Ep Go.Proofs.YtcblddpapehdeaaDoor.Sm Go.Proofs.YtcblddpapehdeaaDoor.Right Go.ChangeShapes Go.WideShapes
set_option linter.unusedVariables false
abbrev tI : TypeId := 3
theorem elemI : Elem Tryd.prog 33 tI 8 := Elem.of (z := .int .i64 0) (by kernel_rfl) (by kernel_rfl) rfl
def plN (cols : List Co) (l : List Bs) : List Int := l.map (colI cols)
def plOk (cols : List Co) (l : List Bs) : Prop := ∀ s ∈ l, 0 ≤ colI cols s
instance instPlOk (cols : List Co) (l : List Bs) : Decidable (plOk cols l) := by unfold plOk; infer_instance
/-- The places, or none and the error. -/
def plL (cols : List Co) (l : List Bs) : List Int := if plOk cols l then plN cols l else []
def plE (cols : List Co) (l : List Bs) : Int := if plOk cols l then 0 else 4
theorem pl_yes {cols : List Co} {l : List Bs} (h : plOk cols l) : plL cols l = plN cols l ∧ plE cols l = 0 := ⟨if_pos h, if_pos h⟩
theorem pl_no {cols : List Co} {l : List Bs} (h : ¬ plOk cols l) : plL cols l = [] ∧ plE cols l = 4 := ⟨if_neg h, if_neg h⟩
/-- What Places leaves. -/
def PlD (cols : List Co) (l : List Bs) (w : World) (e : Ending) (w' : World) : Prop := ∃ A n c, e = .returned (.tuple #[.slice A n c, .int .i64 (plE cols l)]) ∧ n = (plL cols l).length ∧ Row w' w'.heap.size A ((plL cols l).map (Value.int .i64)) ∧ Below w.heap.size w w'
theorem own_low {V w0 w' : World} {e : TypeId} {v : Value} {n : Nat} {us : List Value} {o : Obj} (hown : w0.ownsRow V.heap.size e 1 v n us) (hb : Below V.heap.size V w0) (g : (w0.alloc o).grownBy w' v.ownBlock) : Below V.heap.size V w' := by
  have hb1 := al hb o
  exact hb1.trans ⟨g.os, g.tape, g.output, g.size, fun j hj => g.block j (by have := hb1.size; omega) (fun e => by have := (hown.lt j e.symm).1; omega)⟩
end Go.Proofs.YtcblddpapehdeaaDoor.Tk
namespace Go.Proofs.YtcblddpapehdeaaDoor.Tk
open Go.RowKit Go.Proofs.YtcblddpapehdeaaDoor.Mem Go.Proofs.YtcblddpapehdeaaDoor.Ep Go.Proofs.YtcblddpapehdeaaDoor.Sm Go.ChangeShapes Go.WideShapes
set_option linter.unusedVariables false
abbrev tSl : TypeId := 32
theorem elemR : Elem Tryd.prog 84 tSl 24 := Elem.of (z := .slice none 0 0) (by kernel_rfl) (by kernel_rfl) rfl
/-- The same of lists with their rooms. -/
def RowC (w : World) (B : Nat) (A : Option Addr) (parts : List (List Bs)) : Prop :=
  ∀ j l, parts[j]? = some l → ∃ b o P c, A = some ⟨b, o, none⟩ ∧ b < B ∧ w.cell? ⟨b, o + j, none⟩ = some (.slice P l.length c) ∧ (P = none → c = 0) ∧ Row w B P (l.map str) ∧ l.length ≤ c ∧ c ≤ maxLen
theorem RowC.to {w : World} {B : Nat} {A : Option Addr} {parts : List (List Bs)} (h : RowC w B A parts) : RowR w B A parts := fun j l hl => by
  obtain ⟨b, o, P, c, h1, h2, h3, h4, h5, -⟩ := h j l hl
  exact ⟨b, o, P, c, h1, h2, h3, h4, h5⟩
theorem RowC.below {w w' : World} {B B' : Nat} {A : Option Addr} {parts : List (List Bs)} (h : RowC w B A parts) (hb : Below B' w w') (hB : B ≤ B') : RowC w' B A parts := fun j l hl => by
  obtain ⟨b, o, P, c, h1, h2, h3, h4, h5, h6⟩ := h j l hl
  exact ⟨b, o, P, c, h1, h2, (hb.cell (p := ⟨b, o + j, none⟩) (by show b < B'; omega)).trans h3, h4, h5.below hb hB, h6⟩
/-- The room of a row. -/
theorem row_cap {w : World} {S : Nat → Prop} {A : Option Addr} {n c : Nat} {l : List Bs} (h : IsRow w S 1 (l.map sDt) (.slice A n c)) : l.length ≤ c ∧ c ≤ maxLen := by
  obtain ⟨A', c', e, h1, h2, -, -⟩ := h
  injection e with e1 e2 e3
  subst e1 e2 e3
  exact ⟨by simpa using h1, h2⟩
/-- A list of older lists that a call has gathered. -/
structure TRd (V : World) (us : List Value) (parts : List (List Bs)) : Prop where
  len : us.length = parts.length
  at_ : ∀ (k : Nat) (u : Value) (l : List Bs), us[k]? = some u → parts[k]? = some l → ∃ P c, u = .slice P l.length c ∧ (P = none → c = 0) ∧ Row V V.heap.size P (l.map str) ∧ l.length ≤ c ∧ c ≤ maxLen
structure TR (V : World) (v : Value) (parts : List (List Bs)) (w : World) : Prop where
  ex : ∃ us, w.ownsRow V.heap.size tSl 1 v parts.length us ∧ TRd V us parts
  low : Below V.heap.size V w
section
variable {V w w' : World} {v : Value} {parts : List (List Bs)}
noncomputable def TR.us (h : TR V v parts w) : List Value := h.ex.choose
theorem TR.own (h : TR V v parts w) : w.ownsRow V.heap.size tSl 1 v parts.length h.us := h.ex.choose_spec.1
theorem TR.dat (h : TR V v parts w) : TRd V h.us parts := h.ex.choose_spec.2
theorem tr_none (h : Below V.heap.size V w) : TR V (.slice none 0 0) [] w := ⟨⟨[], ⟨rfl, .inl ⟨rfl, rfl⟩⟩, rfl, fun k u l h => by simp at h⟩, h⟩
theorem TR.more {v' : Value} {l : List Bs} {P : Option Addr} {n c : Nat} {o : Obj} (h : TR V v parts w) (hl : n = l.length) (hP : P = none → c = 0) (hr : Row V V.heap.size P (l.map str)) (hcp : l.length ≤ c ∧ c ≤ maxLen) (g1 : w'.ownsRow V.heap.size tSl 1 v' (parts.length + 1) (h.us ++ [.slice P n c])) (g2 : (w.alloc o).grownBy w' v.ownBlock) : TR V v' (parts ++ [l]) w' := by
  have hb1 := al h.low o
  refine ⟨⟨h.us ++ [.slice P n c], by rw [List.length_append]; exact g1, by rw [List.length_append, List.length_append, h.dat.len]; rfl, fun k u m hu hm => ?_⟩, hb1.trans ⟨g2.os, g2.tape, g2.output, g2.size, fun j hj => g2.block j (by have := hb1.size; omega) (fun e => by have := (h.own.lt j e.symm).1; omega)⟩⟩
  by_cases hk : k < parts.length
  · rw [List.getElem?_append_left (by rw [h.dat.len]; exact hk)] at hu
    rw [List.getElem?_append_left hk] at hm
    exact h.dat.at_ k u m hu hm
  · have hk2 : k = parts.length := by
      have := (List.getElem?_eq_some_iff.1 hm).1
      rw [List.length_append] at this
      simp at this
      omega
    subst hk2
    rw [← h.dat.len, List.getElem?_concat_length] at hu
    rw [List.getElem?_concat_length] at hm
    cases hu
    cases hm
    exact ⟨P, c, by rw [hl], hP, hr, hcp⟩
theorem TR.rows (h : TR V v parts w) : ∃ A c, v = .slice A parts.length c ∧ RowC w w.heap.size A parts := by
  have ho := h.own
  obtain ⟨A, c, rfl⟩ : ∃ A c, v = .slice A parts.length c := by
    rcases ho.2 with ⟨hv, h0⟩ | ⟨g, cap, cur, hv, _⟩
    · exact ⟨none, 0, by rw [hv, h0]⟩
    · exact ⟨_, _, hv⟩
  refine ⟨A, c, rfl, fun j l hl => ?_⟩
  have hj := (List.getElem?_eq_some_iff.1 hl).1
  have hu : h.us[j]? = some (h.us[j]'(by rw [h.dat.len]; exact hj)) := List.getElem?_eq_getElem _
  obtain ⟨P, d, hp, hP, hr, hcp⟩ := h.dat.at_ j _ l hu hl
  rw [hp] at hu
  obtain ⟨b, o, g1, g2, g3⟩ := Row.own ho j _ hu
  exact ⟨b, o, P, d, g1, g2, g3, hP, row_on hr h.low, hcp⟩
end
/-- What lists leaves. -/
def LisD (parts : List (List Bs)) (w : World) (e : Ending) (w' : World) : Prop := ∃ A c, e = .returned (.slice A parts.length c) ∧ RowC w' w'.heap.size A parts ∧ Below w.heap.size w w'
set_option maxRecDepth 20000 in
set_option maxHeartbeats 4000000 in
theorem lists_any (x : Tb) (f : Fb) (w : World) (hx : FbIn w w.heap.size f x) (h4 : f.n4 ≤ 10000) (h5 : f.n5 ≤ 10000) : Calls Tryd.prog 50 #[.agg #[.string (txt x.nm), .string (txt x.own), .int .i64 x.ver, .slice f.A3 f.n3 f.a3, .slice f.A4 f.n4 f.a4, .slice f.A5 f.n5 f.a5]] w (LisD (x.cons.map (·.cols) ++ x.idx.map (·.2)) w) := by
  obtain ⟨V, hV⟩ : ∃ W1, w.alloc (.cells #[.string (txt x.nm), .string (txt x.own), .int .i64 x.ver, .slice f.A3 f.n3 f.a3, .slice f.A4 f.n4 f.a4, .slice f.A5 f.n5 f.a5] tTb) = W1 := ⟨_, rfl⟩
  have hb : Below w.heap.size w V := by rw [← hV]; exact al (Below.refl _ _) _
  have HX := Lib.hid (show Tbx V w.heap.size f x from by rw [← hV]; exact tbx_new hx)
  have HE := Lib.hid (show ∀ W, Below V.heap.size V W → Below w.heap.size w W from fun W g => hb.trans (g.mono hb.size))
  have HN4 := Lib.hid hx.n4
  have HN5 := Lib.hid hx.n5
  clear hx hb
  go_enter Tryd.func50, Tryd.ntmps50
  go_wp2
  clear hV
  go_loopw [4, 3] (fun i u wr => ∃ (j : Nat) (v : Value), j ≤ f.n4 ∧ i = .int .i64 (j : Int) ∧ v = u ∧ Hid (TR V v ((x.cons.take j).map (·.cols)) wr)) (fun i _ _ => f.n4 + 1 - (intOf i).toNat)
  case atStart => exact ⟨0, _, Nat.zero_le _, rfl, rfl, Lib.hid (by simpa using tr_none (Below.refl V.heap.size V))⟩
  case round =>
    obtain ⟨j, v, hj, rfl, rfl, HE1⟩ := hrel
    have hmx : f.n4 ≤ 2 ^ 63 - 1 := by omega
    have hlo := HE1.out.low
    have y4 : wr.cell? ⟨w.heap.size, 4, none⟩ = some (.slice f.A4 f.n4 f.a4) := HX.out.at_ hlo 4
    by_cases hlt : j < f.n4
    · --<
      obtain ⟨c, hc⟩ := some_at HN4.out.symm hlt
      have tl : decide ((j : Int) < (f.n4 : Int)) = true := decide_eq_true (by omega)
      have tl2 : decide (j < f.n4) = true := decide_eq_true hlt
      obtain ⟨b1, o1, P, pn, pc, k0, o0, vk, vn, vs, ns, A0, m0, c0, Q, qn, qc, hA, hb1, hp, i1, -, -⟩ := cn_at HX.out.all.cons.2.2.2 hc
      rw [hA] at y4
      have p0 : wr.cell? ⟨b1, o1 + j * 12 + 2, none⟩ = some (.slice P pn pc) := (hlo.cell (p := ⟨b1, o1 + j * 12 + 2, none⟩) hb1).trans (hp 2 _ rfl)
      obtain ⟨hr, hl, hP⟩ := row_str i1; have hcp := row_cap i1
      have HLN := Lib.hid (show ((x.cons.take j).map (·.cols)).length + 1 ≤ 100000 from by have h4 := HN4.out; simp only [List.length_map, List.length_take]; omega)
      have HSN := Lib.hid (show ∀ v' w', TR V v' (((x.cons.take j).map (·.cols)) ++ [c.cols]) w' → TR V v' ((x.cons.take (j + 1)).map (·.cols)) w' from fun v' w' g => by rw [take_map_on hc]; exact g)
      have HAP := Lib.hid (show ∀ v' w', w'.ownsRow V.heap.size tSl 1 v' (((x.cons.take j).map (·.cols)).length + 1) (HE1.out.us ++ [.slice P pn pc]) → (wr.alloc (.cells #[.slice P pn pc] tSl)).grownBy w' v.ownBlock → TR V v' (((x.cons.take j).map (·.cols)) ++ [c.cols]) w' from fun v' w' g1 g2 => HE1.out.more hl.symm hP hr hcp g1 g2)
      clear hlo hA hb1 hc hr hl hP hcp i1 hp
      go_wp2_with (at_builtin; refine wp_one (x := .slice P pn pc) elemR V.heap.size (.tmp 13) (.tmp 20) rfl rfl rfl HE1.out.own rfl rfl (by have := HLN.out; omega) (by have := HLN.out; omega) HE1.out.low.size ?_; intro v2 w2 g1 g2 g3; have HR := Lib.hid (HSN.out _ _ (HAP.out _ _ g1 g2)); clear g1 g2 g3)
      go_roundw
      case rel => exact ⟨j + 1, _, by omega, by go_num, rfl, HR⟩
      case measure => simp [intOf]; omega
      -->
    · have tl : decide ((j : Int) < (f.n4 : Int)) = false := decide_eq_false (by omega)
      have tl2 : decide (j < f.n4) = false := decide_eq_false hlt
      obtain rfl : j = f.n4 := by omega
      have T4 := Lib.hid (show TR V v (x.cons.map (·.cols)) wr from by have h1 := HE1.out; rw [HN4.out, List.take_length] at h1; exact h1)
      clear HE1 hj hlt tl tl2 hmx hlo
      go_wp2
      clear y4
      go_loopw [5, 3] (fun i u wr => ∃ (j : Nat) (v : Value), j ≤ f.n5 ∧ i = .int .i64 (j : Int) ∧ v = u ∧ Hid (TR V v (x.cons.map (·.cols) ++ (x.idx.take j).map (·.2)) wr)) (fun i _ _ => f.n5 + 1 - (intOf i).toNat)
      case atStart => exact ⟨0, _, Nat.zero_le _, rfl, rfl, Lib.hid (by rw [List.take_zero, List.map_nil, List.append_nil]; exact T4.out)⟩
      case round =>
        obtain ⟨j, v, hj, rfl, rfl, HE1⟩ := hrel
        have hmx : f.n5 ≤ 2 ^ 63 - 1 := by omega
        have hlo := HE1.out.low
        have y5 : wr.cell? ⟨w.heap.size, 5, none⟩ = some (.slice f.A5 f.n5 f.a5) := HX.out.at_ hlo 5
        by_cases hlt : j < f.n5
        · --<
          obtain ⟨c, hc⟩ := some_at HN5.out.symm hlt
          have tl : decide ((j : Int) < (f.n5 : Int)) = true := decide_eq_true (by omega)
          have tl2 : decide (j < f.n5) = true := decide_eq_true hlt
          obtain ⟨b1, o1, P, pn, pc, hA, hb1, -, g1, i1⟩ := ix_at HX.out.all.idx.2.2.2 hc
          rw [hA] at y5
          have p0 : wr.cell? ⟨b1, o1 + j * 2 + 1, none⟩ = some (.slice P pn pc) := (hlo.cell (p := ⟨b1, o1 + j * 2 + 1, none⟩) hb1).trans (g1)
          obtain ⟨hr, hl, hP⟩ := row_str i1; have hcp := row_cap i1
          have HLN := Lib.hid (show (x.cons.map (·.cols) ++ (x.idx.take j).map (·.2)).length + 1 ≤ 100000 from by have h4 := HN4.out; simp only [List.length_append, List.length_map, List.length_take]; omega)
          have HSN := Lib.hid (show ∀ v' w', TR V v' ((x.cons.map (·.cols) ++ (x.idx.take j).map (·.2)) ++ [c.2]) w' → TR V v' (x.cons.map (·.cols) ++ (x.idx.take (j + 1)).map (·.2)) w' from fun v' w' g => by rw [take_map_on hc, ← List.append_assoc]; exact g)
          have HAP := Lib.hid (show ∀ v' w', w'.ownsRow V.heap.size tSl 1 v' ((x.cons.map (·.cols) ++ (x.idx.take j).map (·.2)).length + 1) (HE1.out.us ++ [.slice P pn pc]) → (wr.alloc (.cells #[.slice P pn pc] tSl)).grownBy w' v.ownBlock → TR V v' ((x.cons.map (·.cols) ++ (x.idx.take j).map (·.2)) ++ [c.2]) w' from fun v' w' g1 g2 => HE1.out.more hl.symm hP hr hcp g1 g2)
          clear hlo hA hb1 hc hr hl hP hcp i1 g1
          go_wp2_with (at_builtin; refine wp_one (x := .slice P pn pc) elemR V.heap.size (.tmp 29) (.tmp 36) rfl rfl rfl HE1.out.own rfl rfl (by have := HLN.out; omega) (by have := HLN.out; omega) HE1.out.low.size ?_; intro v2 w2 g1 g2 g3; have HR := Lib.hid (HSN.out _ _ (HAP.out _ _ g1 g2)); clear g1 g2 g3)
          go_roundw
          case rel => exact ⟨j + 1, _, by omega, by go_num, rfl, HR⟩
          case measure => simp [intOf]; omega
          -->
        · have tl : decide ((j : Int) < (f.n5 : Int)) = false := decide_eq_false (by omega)
          have tl2 : decide (j < f.n5) = false := decide_eq_false hlt
          obtain rfl : j = f.n5 := by omega
          have T5 := Lib.hid (show TR V v (x.cons.map (·.cols) ++ x.idx.map (·.2)) wr from by have h1 := HE1.out; rw [HN5.out, List.take_length] at h1; exact h1)
          obtain ⟨A5, c5, hv5, hr5⟩ := T5.out.rows
          have HR5 := Lib.hid hr5
          subst hv5
          clear hr5
          obtain ⟨l2, hl2⟩ : ∃ n, (x.cons.map (·.cols) ++ x.idx.map (·.2)).length = n := ⟨_, rfl⟩
          have HLM := Lib.hid hl2
          rw [hl2]
          clear hl2 HE1
          go_wp2
          go_ret
          exact ⟨A5, c5, by rw [HLM.out]; rfl, HR5.out, HE.out _ hlo⟩
end Go.Proofs.YtcblddpapehdeaaDoor.Tk
