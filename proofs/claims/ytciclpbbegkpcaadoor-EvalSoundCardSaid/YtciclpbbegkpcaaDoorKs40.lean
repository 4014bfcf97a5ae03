/- The laws' own calls: few; a value's kinds (typing.Kinds). What the laws ask, in mathematics: a type's value is of it; with nothing in one place too. -/
import Derived.Test.YtciclpbbegkpcaaDoorKs39
import Derived.Test.YtciclpbbegkpcaaDoorKs34
namespace Go.Proofs.YtciclpbbegkpcaaDoor.Eo
open Go.RowKit Go.Proofs.YtciclpbbegkpcaaDoor.Mem Go.Proofs.YtciclpbbegkpcaaDoor.Right Go.Proofs.YtciclpbbegkpcaaDoor.Lx Go.Proofs.YtciclpbbegkpcaaDoor.Ep Go.Proofs.YtciclpbbegkpcaaDoor.Ev
set_option linter.unusedVariables false
set_option linter.unusedSimpArgs false
/-- A list of values that came in. -/
structure Lv where
  A : Option Addr
  n : Nat
  c : Nat
  vs : List Vl
structure LvIn (w : World) (b i : Nat) (s : Lv) : Prop where
  cell : w.cell? ⟨b, i, none⟩ = some (.slice s.A s.n s.c)
  vals : Vals w w.heap.size s.A s.vs
  len : s.n = s.vs.length
  max : s.n ≤ 9223372036854775807
  siz : ∀ v ∈ s.vs, v.s.size ≤ maxLen
def FewL (s : Lv) : Prop := s.n ≤ 12 ∧ ∀ v ∈ s.vs, v.s.size ≤ 100
def FewE (w : World) (Ls : List Lv) (e : Ending) (w' : World) : Prop := ∃ r : Bool, e = .returned (.bool r) ∧ (r = true → ∀ s ∈ Ls, FewL s) ∧ w = w'
theorem take_all {α : Type} {p : α → Prop} {l : List α} {k : Nat} {x : α} (hx : l[k]? = some x) (h : ∀ y ∈ l.take k, p y) (hp : p x) : ∀ y ∈ l.take (k + 1), p y := fun y hy => by
  rw [List.take_add_one, hx] at hy
  rcases List.mem_append.1 hy with hy | hy
  · exact h y hy
  · simp at hy; subst hy; exact hp
set_option maxRecDepth 100000 in
set_option maxHeartbeats 1000000 in
theorem few_lists (Ls : List Lv) (b m c : Nat) (w : World) (hm : m = Ls.length) (hM : m ≤ 1000) (h : ∀ (i : Nat) (s : Lv), Ls[i]? = some s → LvIn w b i s) :
    Calls Tryd.prog 12 #[.slice (some ⟨b, 0, none⟩) m c] w (FewE w Ls) := by
  have H := Lib.hid h
  have HM := Lib.hid hm
  clear h hm
  go_enter Tryd.func12, Tryd.ntmps12
  go_wp2
  go_loop [3, 4] (fun i u => ∃ k : Nat, k ≤ m ∧ i = .int .i64 (k : Int) ∧ Hid (∀ s ∈ Ls.take k, FewL s)) (fun i _ => m - (intOf i).toNat)
  case atStart => exact ⟨0, Nat.zero_le _, rfl, Lib.hid (by simp)⟩
  case round =>
    obtain ⟨k, hk, rfl, HT⟩ := hrel
    by_cases hlt : k < m
    · have tl : decide ((k : Int) < (m : Int)) = true := decide_eq_true (by omega)
      obtain ⟨s, hs⟩ : ∃ s, Ls[k]? = some s := ⟨_, List.getElem?_eq_getElem (by have := HM.out; omega)⟩
      have HI := Lib.hid (H.out k s hs)
      have HS := Lib.hid hs
      have c0 := HI.out.cell
      have hmx := HI.out.max
      clear hs
      obtain ⟨A, n, sc, vs⟩ := s
      simp only at c0 hmx
      by_cases h12 : n ≤ 12
      · have t1 : decide (12 < (n : Int)) = false := decide_eq_false (by omega)
        go_wp2
        go_loop [4] (fun i => ∃ j : Nat, j ≤ n ∧ i = .int .i64 (j : Int) ∧ Hid (∀ v ∈ vs.take j, v.s.size ≤ 100)) (fun i => n - (intOf i).toNat)
        case atStart => exact ⟨0, Nat.zero_le _, rfl, Lib.hid (by simp)⟩
        case round =>
          obtain ⟨j, hj, rfl, HV⟩ := hrel
          by_cases hlj : j < n
          · have tj : decide ((j : Int) < (n : Int)) = true := decide_eq_true (by omega)
            obtain ⟨b2, o2, v, e2, hb2, hv, d0, d1, d2⟩ := HI.out.vals.at_ (k := j) (by have h : n = vs.length := HI.out.len; show j < vs.length; omega)
            simp only at e2
            subst e2
            have HVV := Lib.hid hv
            have hsz : v.s.size ≤ 9223372036854775807 := by
              have := HI.out.siz v (List.mem_of_getElem? hv)
              unfold maxLen at this; exact this
            clear hv
            by_cases h100 : v.s.size ≤ 100
            · have t2 : decide (100 < (v.s.size : Int)) = false := decide_eq_false (by omega)
              have HV2 := Lib.hid (take_all HVV.out HV.out h100)
              go_wp2
              go_round
              case rel => exact ⟨j + 1, by omega, by go_num, HV2⟩
              case measure => simp [intOf]; omega
            · have t2 : decide (100 < (v.s.size : Int)) = true := decide_eq_true (by omega)
              go_wp2
              go_ret
              exact ⟨false, rfl, (fun h => by cases h), rfl⟩
          · have tj : decide ((j : Int) < (n : Int)) = false := decide_eq_false (by omega)
            have HT2 := Lib.hid (take_all HS.out HT.out (show FewL ⟨A, n, sc, vs⟩ from ⟨h12, fun v hv => HV.out v (by
              rw [List.take_of_length_le (by have h : n = vs.length := HI.out.len; omega)]; exact hv)⟩))
            go_wp2
            go_round
            case rel => exact ⟨k + 1, by omega, by go_num, HT2⟩
            case measure => simp [intOf]; omega
      · have t1 : decide (12 < (n : Int)) = true := decide_eq_true (by omega)
        go_wp2
        go_ret
        exact ⟨false, rfl, (fun h => by cases h), rfl⟩
    · have tl : decide ((k : Int) < (m : Int)) = false := decide_eq_false (by omega)
      have HT2 := Lib.hid (show ∀ s ∈ Ls, FewL s from fun s hs => HT.out s (by rw [List.take_of_length_le (by have := HM.out; omega)]; exact hs))
      go_wp2
      go_ret
      exact ⟨true, rfl, (fun _ => HT2.out), rfl⟩
set_option maxHeartbeats 1000000 in
theorem kinds_any {w : World} {A : Option Addr} {n c : Nat} {vs : List Vl} (h : Vals w w.heap.size A vs) (hn : n = vs.length) (hm : n ≤ 1000) : Calls Tryd.prog 16 #[.slice A n c] w fun e w' => (∃ B d, e = .returned (.slice B n d) ∧ w'.ownsRow w.heap.size Ev.tI 1 (.slice B n d) n ((vs.map Vl.k).map (.int .i64))) ∧ Below w.heap.size w w' := by
  have HH := Lib.hid h
  have HN := Lib.hid hn
  clear h hn
  go_enter Tryd.func16, Tryd.ntmps16
  go_wp2
  go_loopw [3, 8] (fun v i wr => ∃ (j : Nat) (B : Option Addr) (d : Nat), v = .slice B j d ∧ j ≤ n ∧ i = .int .i64 (j : Int) ∧ Hid (Below w.heap.size w wr ∧ wr.ownsRow w.heap.size Ev.tI 1 (.slice B j d) j (((vs.map Vl.k).take j).map (.int .i64)))) (fun _ i _ => n + 1 - (intOf i).toNat)
  case atStart => exact ⟨0, none, 0, rfl, by omega, rfl, Lib.hid ⟨Below.refl _ _, World.ownsRow_nil _ _ _ _⟩⟩
  case round =>
    obtain ⟨j, B, d, rfl, hj, rfl, HL⟩ := hrel
    by_cases hlt : j < n
    · have tl : decide ((j : Int) < (n : Int)) = true := decide_eq_true (by omega)
      obtain ⟨b, o, v, rfl, hb, hv, c0, c1, c2⟩ := HH.out.at_ (k := j) (by have := HN.out; omega)
      have p0 := (HL.out.1.cell (p := ⟨b, o + j * 3, none⟩) hb).trans c0
      have p1 := (HL.out.1.cell (p := ⟨b, o + j * 3 + 1, none⟩) hb).trans c1
      have p2 := (HL.out.1.cell (p := ⟨b, o + j * 3 + 2, none⟩) hb).trans c2
      have HV := Lib.hid hv
      obtain ⟨W1, hW1⟩ : ∃ W, wr.alloc (.cells #[.int .i64 v.k, .int .i64 v.n, .string v.s] 35) = W := ⟨_, rfl⟩
      have HC1 := Lib.hid (show Cel W1 wr.heap.size tVa #[.int .i64 v.k, .int .i64 v.n, .string v.s] from by rw [← hW1]; exact Cel.new _ _ _ rfl)
      have HO1 := Lib.hid (show W1.ownsRow w.heap.size Ev.tI 1 (.slice B j d) j (((vs.map Vl.k).take j).map (.int .i64)) from by rw [← hW1]; exact HL.out.2.alloc _)
      have HW1 := Lib.hid (show Below w.heap.size w W1 from by rw [← hW1]; exact al HL.out.1 _)
      have r0 := HC1.out.at_ 0
      clear hv
      go_wp2_with (at_builtin; go_loud (refine wp_one Ev.elemI w.heap.size (.tmp 12) (.tmp 15) rfl rfl rfl HO1.out rfl rfl (by omega) (by omega) HW1.out.size ?_); intro v4 w4 g1 g2 g3; obtain ⟨A4, c4, rfl, -, -⟩ := Row.form g1; have HO4 := Lib.hid g1; have HG4 := Lib.hid g2; have HG3 := Lib.hid g3; clear g1 g2 g3)
      go_roundw
      case rel =>
        refine ⟨j + 1, A4, c4, rfl, by omega, by go_num, Lib.hid ⟨grown_low (al HW1.out _) HG4.out (fun b hb => own_low HO1.out b hb), ?_⟩⟩
        have := HO4.out
        rw [List.take_add_one, List.getElem?_map, HV.out, List.map_append]
        exact this
      case measure => simp [intOf]; omega
    · have tl : decide ((j : Int) < (n : Int)) = false := decide_eq_false (by omega)
      obtain rfl : j = n := by omega
      have HE := Lib.hid (show wr.ownsRow w.heap.size Ev.tI 1 (.slice B j d) j ((vs.map Vl.k).map (.int .i64)) from by
        have := HL.out.2
        rwa [List.take_of_length_le (by rw [List.length_map]; have := HN.out; omega)] at this)
      have HB := Lib.hid HL.out.1
      go_wp2
      go_ret
      exact ⟨⟨B, d, rfl, HE.out⟩, HB.out⟩
end Go.Proofs.YtciclpbbegkpcaaDoor.Eo
namespace Go.Proofs.YtciclpbbegkpcaaDoor.Eo
open Go.RowKit Go.Proofs.YtciclpbbegkpcaaDoor.Mem Go.Proofs.YtciclpbbegkpcaaDoor.Right Go.Proofs.YtciclpbbegkpcaaDoor.Lx Go.Proofs.YtciclpbbegkpcaaDoor.Ep Go.Proofs.YtciclpbbegkpcaaDoor.Ev
set_option linter.unusedVariables false
theorem wide_fine : ∀ e : Ex, Fine e → Wide e := by
  refine Ex.byKids fun k o vk vn vs nm kids ih h => ?_
  obtain ⟨⟨-, -, -, h1⟩, -, h2⟩ := (fine_mk _ _ _ _ _ _ _).1 h
  exact (wide_mk _ _ _ _ _ _ _).2 ⟨h1, fun x hx => ih x hx (h2 x hx)⟩
theorem kinds_vv (l : List Vl) : (l.map vv).map Vv.k = l.map Vl.k := by
  rw [List.map_map]; rfl
/-- What a law asks of a value and its error, beside a type. -/
def Asks (t : Int) (R : Vv × Int) : Prop := (R.2 = 0 → R.1.k = t ∨ R.1.k = 0) ∧ (R.2 ≠ 0 → R.2 = 10 ∨ R.2 = 3)
theorem asks_of {t : Int} {R : Vv × Int} (h : Snd t R) : Asks t R := by
  rcases h with h | h | h
  · exact ⟨fun _ => h.2.1, fun g => absurd h.1 g⟩
  · exact ⟨fun g => by omega, fun _ => .inl h⟩
  · exact ⟨fun g => by omega, fun _ => .inr h⟩
theorem type_eval {g : GS} {cols prs : List Int} {e : Ex} {t : Int} (hw : Wide e) (h1 : Fit cols (g.row.map vv)) (h2 : Fit prs (g.prs.map vv)) (h : typeT cols prs e = (t, 0)) : Asks t (evalT g e) := by
  unfold typeT at h
  unfold evalT
  by_cases hc : checkE true e ≠ 0
  · rw [if_pos hc] at h
    injection h with _ h
    exact absurd h hc
  · rw [if_neg hc] at h ⊢
    have h0 : checkE true e = 0 := by simpa using hc
    have hr : rightB true e = true := by
      unfold checkE at h0
      split at h0
      · cases h0
      · split at h0
        · rename_i h; exact h
        · cases h0
    exact asks_of (sound (rw_of (rs_of e hr) hw) h1 h2 t h).2
theorem sound_law {g : GS} {e : Ex} {t : Int} (hw : Wide e) (h : typeT (g.row.map Vl.k) (g.prs.map Vl.k) e = (t, 0)) : Asks t (evalT g e) := by
  rw [← kinds_vv, ← kinds_vv] at h
  exact type_eval hw (fit_kinds _) (fit_kinds _) h
end Go.Proofs.YtciclpbbegkpcaaDoor.Eo
