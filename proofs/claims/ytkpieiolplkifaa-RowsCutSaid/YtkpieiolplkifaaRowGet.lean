/- What rows.Get answers: the row whose bytes these are, or the error. -/
import Derived.Test.YtkpieiolplkifaaRowRead5
import Derived.Laws.ResultCell
import Derived.RegionTactic
import Derived.BigRegion
namespace Go.Proofs.Ytkpieiolplkifaa.Rw
open Go.RowKit Go.Proofs.Ytkpieiolplkifaa.Mem Go.Proofs.Ytkpieiolplkifaa.Right
set_option linter.unusedVariables false

theorem after_ok {α : Type} {p : Got α} {u : Unit} {r : List UInt8} (h : p.after = .ok u r) : ∃ a, p = .ok a r := by
  cases p with
  | ok a r' => exact ⟨a, by injection h with _ h; rw [h]⟩
  | bad y => cases h
theorem then_is {α β : Type} {p : Got α} {f : α → List UInt8 → Got β} {b : β} {r : List UInt8} (h : p.then f = .ok b r) : ∃ a l, p = .ok a l ∧ f a l = .ok b r := by
  cases p with
  | ok a l => exact ⟨a, l, rfl, h⟩
  | bad y => cases h
/-- The parts of a row, read one behind the other, are the row. -/
theorem get_good {b : List UInt8} {x1 : Int} {x2 x3 : Nat} {vs : List Vl} {u : Unit} {r : List UInt8}
    (h1 : ∀ a r, rdN b = .ok a r → x1 = a) (h2 : ∀ a r, ((rdN b).after.then fun _ l => rdC l) = .ok a r → x2 = a)
    (h3 : ∀ a r, (((rdN b).after.then fun _ l => rdC l).after.then fun _ l => rdK x2 l) = .ok a r → x3 = a)
    (h4 : ∀ a r, ((((rdN b).after.then fun _ l => rdC l).after.then fun _ l => rdK x2 l).after.then fun _ l => rdVs x2 x3 l) = .ok a r → vs = a)
    (h : ((((rdN b).after.then fun _ l => rdC l).after.then fun _ l => rdK x2 l).after.then fun _ l => rdVs x2 x3 l).after.then (fun _ l => rdE l) = .ok u r) : getR b = .ok (x1, vs) r := by
  obtain ⟨_, l4, e4, h⟩ := then_is h
  obtain ⟨a4, e4⟩ := after_ok e4
  obtain rfl := h4 _ _ e4
  obtain ⟨_, l3, e3, f4⟩ := then_is e4
  obtain ⟨a3, e3⟩ := after_ok e3
  obtain rfl := h3 _ _ e3
  obtain ⟨_, l2, e2, f3⟩ := then_is e3
  obtain ⟨a2, e2⟩ := after_ok e2
  obtain rfl := h2 _ _ e2
  obtain ⟨_, l1, e1, f2⟩ := then_is e2
  obtain ⟨a1, e1⟩ := after_ok e1
  obtain rfl := h1 _ _ e1
  unfold getR
  rw [e1, then_ok, f2, then_ok, f3, then_ok, f4, then_ok, h, then_ok]
theorem get_bad {b : List UInt8} {x2 x3 : Nat} {y : Int}
    (h2 : ∀ a r, ((rdN b).after.then fun _ l => rdC l) = .ok a r → x2 = a)
    (h3 : ∀ a r, (((rdN b).after.then fun _ l => rdC l).after.then fun _ l => rdK x2 l) = .ok a r → x3 = a)
    (h : ((((rdN b).after.then fun _ l => rdC l).after.then fun _ l => rdK x2 l).after.then fun _ l => rdVs x2 x3 l).after.then (fun _ l => rdE l) = .bad y) : getR b = .bad y := by
  unfold getR
  cases e1 : rdN b with
  | bad z => rw [e1] at h; simpa [Got.then, Got.after] using h
  | ok n r1 =>
    rw [e1] at h2 h3 h
    simp only [Got.after, then_ok] at h2 h3 h ⊢
    cases e2 : rdC r1 with
    | bad z => rw [e2] at h; simpa [Got.then] using h
    | ok m r2 =>
      rw [e2] at h2 h3 h
      obtain rfl := h2 m r2 rfl
      simp only [then_ok] at h3 h ⊢
      cases e3 : rdK x2 r2 with
      | bad z => rw [e3] at h; simpa [Got.then] using h
      | ok q r3 =>
        rw [e3] at h3 h
        obtain rfl := h3 q r3 rfl
        simp only [then_ok] at h ⊢
        cases e4 : rdVs x2 x3 r3 with
        | bad z => rw [e4] at h; simpa [Got.then] using h
        | ok us r4 =>
          rw [e4] at h
          simp only [then_ok] at h ⊢
          rw [h]; rfl
theorem own_set3 {w : World} {base : Nat} {e : TypeId} {v x : Value} {n g i : Nat} {xs : List Value} (h : w.ownsRow base e 3 v n xs) (hg : g < base) : (w.setCell ⟨g, i, none⟩ x).ownsRow base e 3 v n xs := by
  obtain ⟨h1, h2⟩ := h
  refine ⟨h1, ?_⟩
  rcases h2 with h2 | ⟨k, cap, cur, hv, hb, hh, rest⟩
  · exact .inl h2
  · refine .inr ⟨k, cap, cur, hv, hb, ?_, rest⟩
    show (w.heap.modify g _)[k]? = _
    rw [Array.getElem?_modify, if_neg (by omega)]
    exact hh
/-- What Get leaves: the row, or the error and no row. -/
def GetPost (w : World) (p : Got (Int × List Vl)) (e : Ending) (w' : World) : Prop :=
  ∃ num A n c x, e = .returned (.tuple #[.agg #[.int .i64 num, .slice A n c], .int .i64 x]) ∧ Below w.heap.size w w' ∧
    ((∃ vs r, p = .ok (num, vs) r ∧ x = 0 ∧ Vals w' w'.heap.size A vs ∧ vs.length = n) ∨ (p = .bad x ∧ ¬ x = 0 ∧ num = 0 ∧ A = none ∧ n = 0))
theorem row_cells {w : World} {g : Nat} {x y : Value} {t : TypeId} (h : w.heap[g]? = some (.cells #[x, y] t (0, 0))) :
    w.cell? ⟨g, 0, none⟩ = some x ∧ w.cell? ⟨g, 1, none⟩ = some y ∧ w.frozen? ⟨g, 0, none⟩ = false ∧ w.frozen? ⟨g, 1, none⟩ = false := rd_cells h
set_option maxRecDepth 20000 in
set_option maxHeartbeats 8000000 in
theorem get_any (A : Option Addr) (n c : Nat) (b : List UInt8) (w : World) (h : Bs w A n c b) :
    Calls Try.prog 15 #[.slice A n c] w (GetPost w (getR b)) := by
  obtain ⟨hr, hl, hn, hc⟩ := h
  have HR := Lib.hid hr
  have hh0 := heap_alloc_new (w.alloc (.cells #[.int .i64 0, .slice none 0 0] 24)) (.cells #[.slice A n c, .int .i64 0] 58)
  rw [size1] at hh0
  have HB0 := Lib.hid (show Below w.heap.size w ((w.alloc (.cells #[.int .i64 0, .slice none 0 0] 24)).alloc (.cells #[.slice A n c, .int .i64 0] 58)) from al (al (Below.refl _ _) _) _)
  have H0 := Lib.hid (show Rd w.heap.size ((w.alloc (.cells #[.int .i64 0, .slice none 0 0] 24)).alloc (.cells #[.slice A n c, .int .i64 0] 58)) (w.heap.size + 1) (.ok () b) from
    Rd.live (Nat.le_succ _) hh0 (hr.to fun p hp => HB0.out.cell hp) hl hn hc)
  have HX0 := Lib.hid (show ((w.alloc (.cells #[.int .i64 0, .slice none 0 0] 24)).alloc (.cells #[.slice A n c, .int .i64 0] 58)).heap[w.heap.size]? = some (.cells #[.int .i64 0, .slice none 0 0] 24 (0, 0)) from
    ((al (Below.refl _ _) _).block w.heap.size (by simp)).trans (heap_alloc_new w _))
  have HS0 := Lib.hid (show w.heap.size < ((w.alloc (.cells #[.int .i64 0, .slice none 0 0] 24)).alloc (.cells #[.slice A n c, .int .i64 0] 58)).heap.size by simp; omega)
  have HNE := Lib.hid (show some w.heap.size ≠ some (w.heap.size + 1) by simp)
  clear hh0 hr hl
  go_enter Try.func15, Try.ntmps15
  go_wp2_with (first | (go_at_call 27; (with_reducible refine (number_any w.heap.size (w.heap.size + 1) (.ok () b) _ H0.out).mono ?_); rintro e w1 ⟨x1, rfl, hm, hv⟩; have M1 := Lib.hid hm; have R1 := Lib.hid hm.1; have V1 := Lib.hid hv; clear hm hv) | (go_at_call 28; (with_reducible refine (count_any w.heap.size (w.heap.size + 1) _ w1 R1.out).mono ?_); rintro e w2 ⟨x2, rfl, hx2, hm, hv⟩; have M2 := Lib.hid (M1.out.on hm); have R2 := Lib.hid hm.1; have V2 := Lib.hid hv; clear hm hv) | (go_at_call 29; (with_reducible refine (kindsR_any w.heap.size (w.heap.size + 1) x2 _ w2 hx2 R2.out).mono ?_); rintro e w3 ⟨x3, rfl, hx3, hm, hv⟩; have M3 := Lib.hid (M2.out.on hm); have R3 := Lib.hid hm.1; have V3 := Lib.hid hv; clear hm hv) | (go_at_call 30; (with_reducible refine (values_rd w.heap.size (w.heap.size + 1) x2 x3 _ w3 hx2 hx3 R3.out).mono ?_); rintro e w4 ⟨v4, vs, rfl, hm, ho, hlen, hv⟩; have M4 := Lib.hid (M3.out.on hm); have R4 := Lib.hid hm.1; have V4 := Lib.hid hv; have O4 := Lib.hid ho; have L4 := Lib.hid hlen; clear hm hv ho hlen) | (go_at_call 31; (with_reducible refine (end_any w.heap.size (w.heap.size + 1) _ w4 R4.out).mono ?_); rintro e w5 ⟨rfl, hm⟩; have M5 := Lib.hid (M4.out.on hm); have O5 := Lib.hid (O4.out.kept hm.2 (.inr (fun e => by have := (O4.out.lt _ e).1; have := R3.out.lt; omega))); obtain ⟨_, A5, n5, c5, e5, hh5, _, _, hs5⟩ := hm.1; have S5 := Lib.hid hs5; obtain ⟨_, q1, _, _⟩ := rd_cells hh5; have X5 := Lib.hid ((M5.out.2.block w.heap.size HS0.out HNE.out).trans HX0.out); obtain ⟨p0, p1, f0, f1⟩ := row_cells X5.out; obtain ⟨Av, kv, rfl, _, _⟩ := Vals.own O5.out; clear hm hh5 hs5))
  · have t5 : (e5 != 0) = true := by assumption
    have h5 : ¬ e5 = 0 := fun e => by rw [e] at t5; cases t5
    have HG := Lib.hid (show getR b = .bad e5 by
      rcases S5.out with ⟨l, _, e0, _⟩ | ⟨e1, _⟩
      · exact absurd e0 h5
      · exact get_bad V2.out V3.out e1)
    have H5 := Lib.hid h5
    have HBw := Lib.hid (HB0.out.trans (grown_to M5.out.2 (Nat.le_succ _) H0.out.lt))
    clear h5
    go_region
    go_wp2
    (try simp only [Exit.inBlock, Exit.then])
    refine bodyPost_ret (v := .tuple #[.agg #[.int .i64 0, .slice none 0 0], .int .i64 e5]) ?_ rfl ?_
    · rw [results_cell_tmp rfl]
      go_simp
    exact ⟨0, none, 0, 0, e5, rfl, (HBw.out.drew.setCell (p := ⟨w.heap.size, 0, none⟩) (Nat.le_refl _) _).setCell (p := ⟨w.heap.size, 1, none⟩) (Nat.le_refl _) _, .inr ⟨HG.out, H5.out, rfl, rfl, rfl⟩⟩
  · have t5 : (e5 != 0) = false := by assumption
    have h5 : e5 = 0 := Classical.byContradiction fun e => by rw [bne_yes e] at t5; cases t5
    obtain ⟨r5, HG⟩ : ∃ r, Hid (getR b = .ok (x1, vs) r) := by
      rcases S5.out with ⟨l, e1, _⟩ | ⟨_, e1⟩
      · exact ⟨l, Lib.hid (get_good V1.out V2.out V3.out V4.out e1)⟩
      · exact absurd h5 e1
    have HBw := Lib.hid (HB0.out.trans (grown_to M5.out.2 (Nat.le_succ _) H0.out.lt))
    have HL3 := Lib.hid (show w.heap.size < w3.heap.size by have := R3.out.lt; omega)
    clear h5 t5
    (try simp only [Exit.inBlock, Exit.then])
    refine bodyPost_ret (v := .tuple #[.agg #[.int .i64 x1, .slice Av vs.length kv], .int .i64 0]) ?_ rfl ?_
    · rw [results_cell_tmp rfl]
      go_simp
    exact ⟨x1, Av, vs.length, kv, 0, rfl, (HBw.out.setCell (p := ⟨w.heap.size, 0, none⟩) (Nat.le_refl _) _).setCell (p := ⟨w.heap.size, 1, none⟩) (Nat.le_refl _) _, .inl ⟨vs, r5, HG.out, rfl, (Row.own3 (own_set3 (own_set3 O5.out HL3.out) HL3.out)).vals, rfl⟩⟩
end Go.Proofs.Ytkpieiolplkifaa.Rw
