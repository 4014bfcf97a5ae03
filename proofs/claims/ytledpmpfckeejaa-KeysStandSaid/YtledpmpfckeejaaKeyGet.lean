/- What keys.Get answers: the values whose bytes these are, or the error. -/
import Derived.Test.YtledpmpfckeejaaKeyGet4
import Derived.Deep.RegionHeld3
namespace Go.Proofs.Ytledpmpfckeejaa.Key
open Go.RowKit Go.Proofs.Ytledpmpfckeejaa.Mem Go.Proofs.Ytledpmpfckeejaa.Right
set_option linter.unusedVariables false

/-- Values that the call owns, and that below its first block nothing has turned. -/
def MadeV (w : World) (v : Value) (vs : List Vl) (w' : World) : Prop :=
  w'.ownsRow w.heap.size 37 3 v vs.length (cellsAll vs) ∧ Below w.heap.size w w'
theorem MadeV.start {w w' : World} (h : Below w.heap.size w w') : MadeV w (.slice none 0 0) [] w' := ⟨World.ownsRow_nil _ _ _ _, h⟩
theorem MadeV.below {w w' w1 : World} {v : Value} {vs : List Vl} (h : MadeV w v vs w') (hb : Below w'.heap.size w' w1) : MadeV w v vs w1 := by
  refine ⟨?_, on h.2 hb⟩
  obtain ⟨h1, h2⟩ := h.1
  refine ⟨h1, ?_⟩
  rcases h2 with h2 | ⟨g, cap, cur, e, hg, hh, rest⟩
  · exact .inl h2
  · refine .inr ⟨g, cap, cur, e, hg, ?_, rest⟩
    have hlt : g < w'.heap.size := by
      rcases Nat.lt_or_ge g w'.heap.size with h3 | h3
      · exact h3
      · rw [Array.getElem?_eq_none h3] at hh; cases hh
    rw [hb.block g hlt]; exact hh
theorem MadeV.grow {w w' w1 : World} {v v' : Value} {vs vs' : List Vl} {n : Nat} {o : Obj} (h : MadeV w v vs w') (h1 : w1.ownsRow w.heap.size 37 3 v' n (cellsAll vs')) (hg : (w'.alloc o).grownBy w1 v.ownBlock) : MadeV w v' vs' w1 := by
  have hn : n = vs'.length := by have := h1.1; rw [cellsAll_len] at this; omega
  subst hn
  exact ⟨h1, (al h.2 o).grown hg (by simp; have := h.2.size; omega) (fun k hk => (h.1.lt k hk).1)⟩
theorem size_set3 (w : World) (p q r : Addr) (x y z : Value) : (((w.setCell p x).setCell q y).setCell r z).heap.size = w.heap.size := by simp [World.setCell]
theorem undraw {B : Nat} {w w1 : World} (h : Below B w.drew w1) : Below B w w1 := ⟨h.os, h.tape, h.output, h.size, h.block⟩
theorem row_old {w W : World} {B : Nat} {A : Option Addr} {us : List Value} (h : Row W B A us) (hb : Below B w W) : Row w B A us := h.to fun p hp => (hb.cell hp).symm
def lenV : Value → Nat | .slice _ n _ => n | _ => 0
/-- What Get leaves. -/
def GetPost (w : World) (x : List Vl × Int) (e : Ending) (w' : World) : Prop := ∃ v', e = .returned (.tuple #[v', .int .i64 x.2]) ∧ MadeV w v' x.1 w'
theorem get_post {w w' : World} {l : List UInt8} {vs : List Vl} {x : Int} {v' : Value} (h : getV l = (vs, x)) (hm : MadeV w v' vs w') : GetPost w (getV l) (.returned (.tuple #[v', .int .i64 x])) w' :=
  ⟨v', by rw [h], by rw [h]; exact hm⟩

set_option maxHeartbeats 2000000 in
theorem Get_any (A : Option Addr) (n c : Nat) (l : List UInt8) (w : World) (hn : n ≤ l.length) (hn' : l.length ≤ n) (hc : n ≤ c) (hC : c ≤ 9223372036854775807) (h : Row w w.heap.size A (bys l)) :
    Calls Try.prog 11 #[.slice A n c] w (GetPost w (getV l)) := by
  have H := Lib.hid h
  clear h
  go_enter Try.func11, Try.ntmps11
  go_wp2
  go_loopw [0, 4] (fun b x wr => ∃ (A' : Option Addr) (n' c' f : Nat) (r : List UInt8) (vs : List Vl), b = .slice A' n' c' ∧ n' ≤ r.length ∧ r.length ≤ n' ∧ n' ≤ c' ∧ c' ≤ 9223372036854775807 ∧ vs.length ≤ 6 ∧ Hid (Row w w.heap.size A' (bys r)) ∧ Hid (MadeV w x vs wr) ∧ Hid (r.length ≤ f) ∧ Hid (getF f vs r = getV l)) (fun b _ _ => lenV b)
  case atStart => exact ⟨A, n, c, l.length, l, [], rfl, hn, hn', hc, hC, by decide, H, Lib.hid (MadeV.start (Below.refl _ _)), Lib.hid (Nat.le_refl _), Lib.hid rfl⟩
  case round =>
    obtain ⟨A', n', c', f, r, vs, rfl, hr, hr', hc1, hc2, hv6, HR, HM, HF, HG⟩ := hrel
    by_cases h0 : n' = 0
    · subst h0
      have HV := Lib.hid (show getV l = (vs, 0) by
        have : r = [] := List.eq_nil_of_length_eq_zero (by omega)
        subst this
        rw [← HG.out]
        cases f <;> rfl)
      go_wp2
      go_ret2
      exact get_post HV.out HM.out
    · obtain ⟨b, o, d, rfl, hb, hd, hcell0⟩ := HR.out.byte (k := 0) (by omega)
      obtain ⟨g, rfl⟩ : ∃ g, f = g + 1 := ⟨f - 1, by have := HF.out; omega⟩
      have HL := Lib.hid (show r = d :: r.drop 1 by
        obtain ⟨hk', e⟩ := List.getElem?_eq_some_iff.1 hd
        have := List.drop_eq_getElem_cons hk'
        rw [List.drop_zero, e] at this
        exact this)
      have hn0 : (0 : Int) < (n' : Int) := by omega
      have HT := Lib.hid (show (if vs.length = 6 then (([] : List Vl), (3 : Int)) else if (step d (r.drop 1)).e = 0 then getF g (vs ++ [(step d (r.drop 1)).v]) (step d (r.drop 1)).r else ([], (step d (r.drop 1)).e)) = getV l by
        rw [← HG.out]
        conv => rhs; rw [HL.out]
        rfl)
      obtain ⟨A2, c2, rfl, hv2, _⟩ := Vals.own HM.out.1
      clear hv2
      obtain ⟨m, hm⟩ : ∃ m, vs.length = m := ⟨_, rfl⟩
      have HMm := HM.out
      have HMl := Lib.hid hm
      rw [hm] at HM hv6 HT ⊢
      clear HMm hm
      by_cases h6 : m = 6
      · subst h6
        have HV := Lib.hid (show getV l = ([], 3) by rw [← HT.out, if_pos rfl])
        go_wp2
        go_ret2
        exact get_post HV.out (MadeV.start HM.out.2)
      · have t6 : ((m : Int) == 6) = false := beq_no (by omega)
        obtain ⟨o', ho', hsl⟩ := slice_from b o n' c' 1 1 rfl (by omega) hc1
        have HO := Lib.hid ho'
        have hB := HM.out.2.size
        have hcell : wr.cell? ⟨b, o, none⟩ = some (.int .u8 (d.toNat : Int)) := (HM.out.2.cell (p := ⟨b, o, none⟩) hb).trans hcell0
        have hbw : b < wr.heap.size := Nat.lt_of_lt_of_le hb hB
        have HR2 := Lib.hid (fun W (hW : Below wr.heap.size wr W) => ((row_from HR.out hr' hc1 HO.out).below (on HM.out.2 hW) (Nat.le_refl _) : Row W w.heap.size (some ⟨b, o', none⟩) (bys (r.drop 1))))
        have HR3 := Lib.hid (show n' - 1 ≤ (r.drop 1).length ∧ (r.drop 1).length ≤ n' - 1 ∧ n' - 1 ≤ c' - 1 ∧ c' - 1 ≤ 9223372036854775807 by rw [List.length_drop]; omega)
        have hvl : vs.length + 1 ≤ 6 := by have := HMl.out; omega
        have HH := Lib.hid h6
        have HB2 := Lib.hid hB
        have HGET := Lib.hid (fun W (hW : Below wr.heap.size wr W) => get_any d (some ⟨b, o', none⟩) (n' - 1) (c' - 1) (r.drop 1) W w.heap.size (Nat.le_trans hB hW.size) HR3.out.1 HR3.out.2.1 HR3.out.2.2.1 HR3.out.2.2.2 (HR2.out _ hW))
        generalize hst : step d (r.drop 1) = st at HT HGET
        have hsh := step_short d (r.drop 1)
        rw [hst] at hsh
        obtain ⟨k1, n1, s1, r1, e1⟩ := st
        simp only at HT HGET hsh
        have hsh2 : r1.length < n' := by rw [List.length_drop] at hsh; omega
        have hne := World.new_ne wr _ hcell
        clear h6 hd ho' hcell0 hst hB hsh
        by_cases he : e1 = 0
        · subst he
          have HG2 := Lib.hid (show getF g (vs ++ [⟨k1, n1, ⟨s1.toArray⟩⟩]) r1 = getV l by rw [← HT.out, if_neg HH.out, if_pos rfl]; rfl)
          clear HT
          go_wp2
          go_region_held3 (fun W => W.cell? ⟨b, o, none⟩ = some (.int .u8 (d.toNat : Int)))
            (first | go_keep)
            (first | (go_simp; go_at_call 21; (with_reducible refine (HGET.out wr.drew (Below.refl _ _).drew).mono ?_); rintro e w1 ⟨A1, d1, rfl, hb1, hr1, hd1, hd2⟩; have HR1 := Lib.hid (row_old hr1 HM.out.2.drew); have hk1 := (hb1.cell (p := ⟨b, o, none⟩) hbw).trans hcell; have hne1 := World.new_ne w1 _ hk1; have HB1 := Lib.hid (undraw hb1); clear hr1 hb1) | (go_simp; go_at_call 21; (with_reducible refine (HGET.out (wr.alloc (.cells #[.int .i64 0, .int .i64 0, .string ⟨#[]⟩] 37)).drew (al (Below.refl _ _) _).drew).mono ?_); rintro e w1 ⟨A1, d1, rfl, hb1, hr1, hd1, hd2⟩; have HR1 := Lib.hid (row_old hr1 ((HM.out.2.alloc HB2.out _).drew)); have hk1 := ((al (Below.refl wr.heap.size wr) _).drew.trans (hb1.mono (by simp)) |>.cell (p := ⟨b, o, none⟩) hbw).trans hcell; obtain ⟨⟨z0, z1, z2⟩, f0, f1, f2⟩ := made_cells (w := wr) (undraw hb1); have HB1 := Lib.hid (on (al (Below.refl wr.heap.size wr) _) (undraw hb1)); clear hr1 hb1))
          · have HMa := Lib.hid (HM.out.below (al HB1.out (.cells #[.int .i64 k1, .int .i64 n1, .string ⟨s1.toArray⟩] 37)))
            go_wp2_with (at_builtin; refine wp_val (x := ⟨k1, n1, ⟨s1.toArray⟩⟩) elem_value w.heap.size (size1 _ _) (.tmp 27) (.tmp 29) rfl rfl rfl HMa.out.1 rfl (by omega) (by omega) HMa.out.2.size ?_; intro v' w2 g1 g2 _; have HM2 := Lib.hid (HMa.out.grow g1 g2); clear g1 g2)
            go_roundw
            case rel => exact ⟨A1, _, d1, g, r1, _, rfl, Nat.le_refl _, Nat.le_refl _, hd1, hd2, by simp; omega, HR1, HM2, Lib.hid (by have := HF.out; omega), HG2⟩
            case measure => exact hsh2
          · have HMa := Lib.hid (HM.out.below (((HB1.out.setCell (p := ⟨wr.heap.size, 0, none⟩) (Nat.le_refl _) (.int .i64 k1)).setCell (p := ⟨wr.heap.size, 1, none⟩) (Nat.le_refl _) (.int .i64 n1)).setCell (p := ⟨wr.heap.size, 2, none⟩) (Nat.le_refl _) (.string ⟨s1.toArray⟩)))
            go_wp2_with (at_builtin; refine wp_val (x := ⟨k1, n1, ⟨s1.toArray⟩⟩) elem_value w.heap.size (size_set3 _ _ _ _ _ _ _) (.tmp 27) (.tmp 29) rfl rfl rfl HMa.out.1 rfl (by omega) (by omega) HMa.out.2.size ?_; intro v' w2 g1 g2 _; have HM2 := Lib.hid (HMa.out.grow g1 g2); clear g1 g2)
            go_roundw
            case rel => exact ⟨A1, _, d1, g, r1, _, rfl, Nat.le_refl _, Nat.le_refl _, hd1, hd2, by simp; omega, HR1, HM2, Lib.hid (by have := HF.out; omega), HG2⟩
            case measure => exact hsh2
        · have HV := Lib.hid (show getV l = ([], e1) by rw [← HT.out, if_neg HH.out, if_neg he])
          have te := bne_yes he
          clear HT he
          go_wp2
          go_region_held3 (fun W => W.cell? ⟨b, o, none⟩ = some (.int .u8 (d.toNat : Int)))
            (first | go_keep)
            (first | (go_simp; go_at_call 21; (with_reducible refine (HGET.out wr.drew (Below.refl _ _).drew).mono ?_); rintro e w1 ⟨A1, d1, rfl, hb1, hr1, hd1, hd2⟩; have HR1 := Lib.hid (row_old hr1 HM.out.2.drew); have hk1 := (hb1.cell (p := ⟨b, o, none⟩) hbw).trans hcell; have hne1 := World.new_ne w1 _ hk1; have HB1 := Lib.hid (undraw hb1); clear hr1 hb1) | (go_simp; go_at_call 21; (with_reducible refine (HGET.out (wr.alloc (.cells #[.int .i64 0, .int .i64 0, .string ⟨#[]⟩] 37)).drew (al (Below.refl _ _) _).drew).mono ?_); rintro e w1 ⟨A1, d1, rfl, hb1, hr1, hd1, hd2⟩; have HR1 := Lib.hid (row_old hr1 ((HM.out.2.alloc HB2.out _).drew)); have hk1 := ((al (Below.refl wr.heap.size wr) _).drew.trans (hb1.mono (by simp)) |>.cell (p := ⟨b, o, none⟩) hbw).trans hcell; obtain ⟨⟨z0, z1, z2⟩, f0, f1, f2⟩ := made_cells (w := wr) (undraw hb1); have HB1 := Lib.hid (on (al (Below.refl wr.heap.size wr) _) (undraw hb1)); clear hr1 hb1))
          · have HMa := Lib.hid (MadeV.start (HM.out.below (al HB1.out (.cells #[.int .i64 k1, .int .i64 n1, .string ⟨s1.toArray⟩] 37))).2)
            go_wp2
            go_ret2
            exact get_post HV.out HMa.out
          · have HMa := Lib.hid (MadeV.start (HM.out.below (((HB1.out.setCell (p := ⟨wr.heap.size, 0, none⟩) (Nat.le_refl _) (.int .i64 k1)).setCell (p := ⟨wr.heap.size, 1, none⟩) (Nat.le_refl _) (.int .i64 n1)).setCell (p := ⟨wr.heap.size, 2, none⟩) (Nat.le_refl _) (.string ⟨s1.toArray⟩))).2)
            go_wp2
            go_ret2
            exact get_post HV.out HMa.out
end Go.Proofs.Ytledpmpfckeejaa.Key
