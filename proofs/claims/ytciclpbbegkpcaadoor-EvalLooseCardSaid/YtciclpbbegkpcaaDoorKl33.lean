/- The type of a part: the program's call, by the document's words. -/
import Derived.Test.YtciclpbbegkpcaaDoorKl32
namespace Go.Proofs.YtciclpbbegkpcaaDoor.Ev
open Go.RowKit Go.Proofs.YtciclpbbegkpcaaDoor.Mem Go.Proofs.YtciclpbbegkpcaaDoor.Right Go.Proofs.YtciclpbbegkpcaaDoor.Lx Go.Proofs.YtciclpbbegkpcaaDoor.Ep
set_option linter.unusedVariables false
set_option linter.unusedSimpArgs false
theorem row_other {w : World} {B g i : Nat} {A : Option Addr} {us : List Value} {x : Value} (h : Row w B A us) (hg : ∀ b o, A = some ⟨b, o, none⟩ → b ≠ g) : Row (w.setCell ⟨g, i, none⟩ x) B A us := fun k u hu => by
  obtain ⟨b, o, e, hb, hc⟩ := h k u hu
  exact ⟨b, o, e, hb, (World.cell?_of_block (Below.heap_setCell _ ⟨g, i, none⟩ _ _ (hg b o e))).trans hc⟩
theorem own_il {w : World} {base : Nat} {A : Option Addr} {c m : Nat} {l : List Int} (h : w.ownsRow base tI 1 (.slice A m c) m (l.map (.int .i64))) : Il w w.heap.size A m l := by
  obtain ⟨A', c', e, -, hr⟩ := Row.form h
  injection e with e1 e2 e3
  subst e1
  refine ⟨hr, ?_⟩
  have := h.1
  rw [List.length_map] at this
  omega
theorem own_ne {w : World} {base g : Nat} {A : Option Addr} {c m : Nat} {us : List Value} (h : w.ownsRow base tI 1 (.slice A m c) m us) {t : TypeId} {cs : Array Value} (hg : Cel w g t cs) (ht : t ≠ tI) : ∀ b o, A = some ⟨b, o, none⟩ → b ≠ g := by
  rintro b o rfl rfl
  rcases h.2 with ⟨e, _⟩ | ⟨g', cap, cur, e, _, hb, _⟩
  · cases e
  · injection e with e1
    injection e1 with e1
    injection e1 with e1
    subst e1
    have := hb.symm.trans hg
    injection this with this
    injection this with _ this
    exact ht this.symm
theorem keepc {w w4 : World} {base g : Nat} {A : Option Addr} {c m : Nat} {us : List Value} {o : Obj} {t : TypeId} {cs : Array Value} (hg : Cel w g t cs) (h : w.ownsRow base tI 1 (.slice A m c) m us) (ht : t ≠ tI) (k : (w.alloc o).grownBy w4 (Value.slice A m c).ownBlock) : Cel w4 g t cs := by
  refine (k.block g (hg.alloc o).lt (fun e => ?_)).trans (hg.alloc o)
  rcases A with _ | ⟨b, p, r⟩
  · cases e
  · have e1 : b = g := (Option.some.inj e).symm
    rcases h.2 with ⟨e2, _⟩ | ⟨g', cap, cur, e2, _⟩
    · cases e2
    · injection e2 with e2
      injection e2 with e2
      injection e2 with e3 e4 e5
      subst e4 e5
      exact own_ne h hg ht b _ rfl e1
theorem slice_tail (b n c : Nat) (hc : 1 < c) (hn : 1 ≤ n) (hnc : n ≤ c) (w : World) : (Instr.sliceAt 49 (.slice (some ⟨b, 0, none⟩) n c) (some (.int .i64 1)) none none).run Tryd.prog w = .ok (.slice (some ⟨b, 1, none⟩) (n - 1) (c - 1)) w := by
  have hl := Tryd.underlying49
  have he : Tryd.prog.elem 49 = 3 := by simp [Program.elem, hl]
  have hs : (sizeOf 3).run Tryd.prog w = .ok 1 w := by kernel_rfl
  have := run_slice_l w 49 (some ⟨b, 0, none⟩) n c (by rw [he]; exact hl) .i64 1 (by omega) (by omega)
  rw [run_sliceAt_slice w _ _ _ _ _ (by rw [he]; exact hl)]
  rw [this, he, hs]
  simp only [Result.andThen, sliced, Int.toNat_natCast]
  rw [if_neg (by omega)]
  rfl
theorem tail_il {w : World} {B b n : Nat} {t0 : Int} {tl : List Int} (h : Il w B (some ⟨b, 0, none⟩) n (t0 :: tl)) : Il w B (some ⟨b, 1, none⟩) (n - 1) tl := by
  refine ⟨fun k u hu => ?_, by rw [h.2]; simp⟩
  obtain ⟨b', o', e, hb, hc⟩ := h.1 (k + 1) u (by simpa using hu)
  injection e with e
  injection e with e1 e2
  subst e1 e2
  exact ⟨b, 1, rfl, hb, by rw [Nat.add_comm 1 k, ← Nat.zero_add (k + 1)]; exact hc⟩
theorem all_not (tl : List Int) (t0 : Int) : (!(tl.any fun x => !agr [t0, x])) = tl.all fun x => agr [t0, x] := by
  rw [List.not_any_eq_all_not]
  congr 1
  funext x
  simp
theorem made_res {w : World} {t : Int} {b : Bool} : Calls Tryd.prog 64 #[.int .i64 t, .bool b] w fun e w' => e = .returned (.tuple #[.int .i64 (resT t b).1, .int .i64 (resT t b).2]) ∧ w = w' := made_any
set_option maxRecDepth 100000 in
set_option maxHeartbeats 8000000 in
theorem of_any : ∀ e : Ex, OfC e := by
  refine Ex.byKids fun k o vk vn vs nm kids ih => ?_
  intro cs w A1 n1 c1 A2 n2 c2 cols params hg hx hr
  obtain ⟨A, n, c, rfl, hn, hnc, hcm, -, hk⟩ := ex_open hx
  obtain ⟨V, hV⟩ : ∃ V, (w.alloc (.cells #[.slice A1 n1 c1, .slice A2 n2 c2] 82)).alloc (.cells #[.int .i64 k, .int .i64 o, .int .i64 vk, .int .i64 vn, .string (txt vs), .string (txt nm), .slice A n c] 38) = V := ⟨_, rfl⟩
  have hbv : Below w.heap.size w V := by rw [← hV]; exact al (al (Below.refl _ _) _) _
  have HBV := Lib.hid hbv
  have HGV := Lib.hid (show Cel V w.heap.size 82 #[.slice A1 n1 c1, .slice A2 n2 c2] from by rw [← hV]; exact (Cel.new w _ _ rfl).alloc _)
  have HEV := Lib.hid (show Cel V (w.heap.size + 1) 38 #[.int .i64 k, .int .i64 o, .int .i64 vk, .int .i64 vn, .string (txt vs), .string (txt nm), .slice A n c] from by rw [← hV]; exact Cel.new _ _ _ (by simp))
  have y0 := HEV.out.at_ 0
  have y1 := HEV.out.at_ 1
  have y2 := HEV.out.at_ 2
  have y3 := HEV.out.at_ 3
  have y4 := HEV.out.at_ 4
  have y5 := HEV.out.at_ 5
  have y6 := HEV.out.at_ 6
  have x0 := HGV.out.at_ 0
  have x1 := HGV.out.at_ 1
  rcases rs_kids hr with ⟨rfl, hk1⟩ | ⟨hne, hlen, hrk, hform⟩
  · obtain rfl : n = 0 := hn
    obtain ⟨⟨t, f⟩, hF⟩ : ∃ F, find cols params (.mk k o vk vn vs nm []) = F := ⟨_, rfl⟩
    have HL := Lib.hid (show Calls Tryd.prog 60 #[.agg #[.slice A1 n1 c1, .slice A2 n2 c2], .agg #[.int .i64 k, .int .i64 o, .int .i64 vk, .int .i64 vn, .string (txt vs), .string (txt nm), .slice A 0 c]] V fun e w' => e = .returned (.tuple #[.int .i64 t, .int .i64 f]) ∧ Below V.heap.size V w' from by
      have := leaf_ty (c1 := c1) (c2 := c2) (vs := txt vs) (nm := txt nm) (A := A) (c := c) (vs' := vs) (nm' := nm) (vk := vk) (vn := vn) (hg.below hbv) hk1
      rw [hF] at this
      exact this)
    rw [hF]
    clear hg hx hr hk ih hnc hcm hk1 hF hbv
    go_enter Tryd.func36, Tryd.ntmps36
    go_wp2_with (go_at_call 60; (with_reducible refine HL.out.mono ?_); rintro e' w1 ⟨rfl, hb⟩; have HB := Lib.hid (Mem.on HBV.out hb); clear hb)
    go_ret2
    exact ⟨rfl, HB.out⟩
  have hn0 : n ≠ 0 := fun e => hne (List.eq_nil_iff_length_eq_zero.2 (by omega))
  have t0 : decide (n = 0) = false := decide_eq_false hn0
  have HALL := Lib.hid (show Calls Tryd.prog 61 #[.agg #[.slice A1 n1 c1, .slice A2 n2 c2], .slice A n c] V (AllE V (findL cols params kids)) from
    all_any (hg.below hbv) (hk.to (fun b hb => Nat.lt_of_lt_of_le hb hbv.size) (fun p hp => hbv.cell hp)) hn (by omega) hrk ih)
  cases hl : findL cols params kids with
  | error f =>
    rw [hl] at HALL
    have hf := findL_err hl
    have tf : (f != 0) = true := bne_yes hf
    have HF := Lib.hid (show find cols params (.mk k o vk vn vs nm kids) = (0, f) from by rw [find_leafs (by omega) (by omega) (by omega) (by omega), hl])
    clear hg hx hr hk ih hnc hcm hrk hform hlen hl hf hbv hn hne
    go_enter Tryd.func36, Tryd.ntmps36
    go_wp2_with (go_at_call 61; (with_reducible refine HALL.out.mono ?_); rintro e' w1 ⟨hb, rfl⟩; have HB := Lib.hid (Mem.on HBV.out hb); clear hb)
    go_ret2
    rw [HF.out]
    exact ⟨rfl, al HB.out _⟩
  | ok l =>
  rw [hl] at HALL
  have hll := findL_len hl
  have HPOS := Lib.hid (findL_pos hrk hl)
  have HML := Lib.hid (show ∀ (t : Int) (b : Bool), 0 ≤ t → made k o nm l = (if b = true then t else -1) → find cols params (.mk k o vk vn vs nm kids) = resT t b from fun t b ht hm => find_res (by omega) (by omega) (by omega) (by omega) hl ht hm)
  have HFORM := Lib.hid hform
  have HLEN := Lib.hid (show l.length = kids.length ∧ kids.length ≤ 1000 from ⟨hll, hlen⟩)
  clear hg hx hr hk ih hnc hcm hrk hform hlen hl hbv hn hne hll
  go_enter Tryd.func36, Tryd.ntmps36
  go_wp2_with (fail)
  go_at_call 61
  with_reducible refine HALL.out.mono ?_
  rintro e1 w1 ⟨hb1, v1, rfl, ho1⟩
  obtain ⟨B1, d1, rfl, -, -⟩ := Row.form ho1
  have hsz := hb1.size
  have HC1 := Lib.hid (Cel.new w1 tIs #[.slice B1 l.length d1] rfl)
  have HO1 := Lib.hid (ho1.alloc (.cells #[.slice B1 l.length d1] tIs))
  have HB1 := Lib.hid (al hb1 (.cells #[.slice B1 l.length d1] tIs))
  obtain ⟨W1, hW1⟩ : ∃ W, w1.alloc (.cells #[.slice B1 l.length d1] tIs) = W := ⟨_, rfl⟩
  obtain ⟨g, hg⟩ : ∃ g, w1.heap.size = g := ⟨_, rfl⟩
  rw [hW1, hg] at HC1
  rw [hW1] at HO1 HB1
  have hb1 := HB1.out
  clear ho1
  have HGE := Lib.hid (show V.heap.size ≤ g from by rw [← hg]; exact hsz)
  have y0 := (HEV.out.below HB1.out).at_ 0
  have y1 := (HEV.out.below HB1.out).at_ 1
  have y2 := (HEV.out.below HB1.out).at_ 2
  have y3 := (HEV.out.below HB1.out).at_ 3
  have y4 := (HEV.out.below HB1.out).at_ 4
  have y5 := (HEV.out.below HB1.out).at_ 5
  have y6 := (HEV.out.below HB1.out).at_ 6
  go_wp2_with (fail)
  go_at_call 62
  with_reducible refine (signs_any _ _ _).mono ?_
  rintro e2 w2 ⟨rfl, hb2⟩
  have HB2 := Lib.hid (Mem.on HB1.out hb2)
  have HO2 := Lib.hid (own_keep HO1.out hb2)
  have HC2 := Lib.hid (HC1.out.below hb2)
  clear hb2
  have y0 := (HEV.out.below HB2.out).at_ 0
  have y1 := (HEV.out.below HB2.out).at_ 1
  have y2 := (HEV.out.below HB2.out).at_ 2
  have y3 := (HEV.out.below HB2.out).at_ 3
  have y4 := (HEV.out.below HB2.out).at_ 4
  have y5 := (HEV.out.below HB2.out).at_ 5
  have y6 := (HEV.out.below HB2.out).at_ 6
  cases hT0 : sgB k o 4 1 1 with
  | true => as_aux_lemma =>
      have TF := sg_iff.1 hT0
      have HM := Lib.hid (HML.out 1 (agr (l ++ [1])) (by decide) (made_1 (.inl ⟨TF.1, by omega⟩)))
      clear TF
      have HA := Lib.hid (show ∀ (W : World) (A' : Option Addr) (c' : Nat), Il W W.heap.size A' (l.length + 1) (l ++ [1]) → Calls Tryd.prog 65 #[.slice A' (l.length + 1) c'] W fun e w' => e = .returned (.bool (agr (l ++ [1]))) ∧ Below W.heap.size W w' from fun W A' c' h => agree_any h (Nat.le_refl _) (by have := HLEN.out; omega))
      have hz := HC2.out.at_ 0
      have hzo := HC2.out.open_ 0
      have hze := fun o => (HC2.out.alloc o).at_ 0
      obtain ⟨bz, hbz⟩ : ∃ b, agr (l ++ [1]) = b := ⟨_, rfl⟩
      rw [hbz] at HA HM
      clear hbz
      go_wp2_with (first | (at_builtin; (refine wp_one elemI V.heap.size (.tmp 57) (.tmp 59) rfl rfl rfl HO2.out rfl rfl (by have := HLEN.out; omega) (by have := HLEN.out; omega) (HB2.out.size) ?_; intro v4 w20 g1 g2 g3; obtain ⟨A4, c4, rfl, -, -⟩ := Row.form g1; have HCc := Lib.hid (keepc HC2.out HO2.out (by decide) g2); have HOz := Lib.hid (show w20.ownsRow V.heap.size tI 1 (.slice A4 (l.length + 1) c4) (l.length + 1) ((l ++ [1]).map (.int .i64)) from by rw [List.map_append]; exact g1); have HBy := Lib.hid (grown_low (al HB2.out (.cells #[.int .i64 1] tI)) g2 (fun b hb => own_low HO2.out b hb)); have hs0 := HCc.out.at_ 0; have hs1 := HCc.out.open_ 0; have hs2 := (HCc.out.set 0 (.slice A4 (l.length + 1) c4)).at_ 0; have HIz := Lib.hid (show Il (w20.setCell ⟨g, 0, none⟩ (.slice A4 (l.length + 1) c4)) (w20.setCell ⟨g, 0, none⟩ (.slice A4 (l.length + 1) c4)).heap.size A4 (l.length + 1) (l ++ [1]) from by have h := own_il HOz.out; refine ⟨?_, h.2⟩; have h2 := row_other (i := 0) (x := .slice A4 (l.length + 1) c4) h.1 (own_ne HOz.out HCc.out (by decide)); simpa using h2); have HBz := Lib.hid (Below.setCell (p := ⟨g, 0, none⟩) HBy.out (show V.heap.size ≤ g from HGE.out) (.slice A4 (l.length + 1) c4)); clear g1 g2 g3)) | (go_at_call 65; (with_reducible refine (HA.out _ _ _ HIz.out).mono ?_); rintro e21 w21 ⟨rfl, hb⟩; have HBE := Lib.hid (Mem.on HBV.out (Mem.on HBz.out hb)); clear hb) | (go_at_call 64; (with_reducible refine (made_res).mono ?_); rintro e22 w22 ⟨rfl, rfl⟩))
      go_ret2
      exact ⟨by rw [HM.out]; rfl, HBE.out⟩
  | false =>
  have E0 := Lib.hid hT0
  go_wp2_with (fail)
  go_at_call 62
  with_reducible refine (signs_any _ _ _).mono ?_
  rintro e3 w3 ⟨rfl, hb3⟩
  have HB3 := Lib.hid (Mem.on HB2.out hb3)
  have HO3 := Lib.hid (own_keep HO2.out hb3)
  have HC3 := Lib.hid (HC2.out.below hb3)
  clear hb3
  have y0 := (HEV.out.below HB3.out).at_ 0
  have y1 := (HEV.out.below HB3.out).at_ 1
  have y2 := (HEV.out.below HB3.out).at_ 2
  have y3 := (HEV.out.below HB3.out).at_ 3
  have y4 := (HEV.out.below HB3.out).at_ 4
  have y5 := (HEV.out.below HB3.out).at_ 5
  have y6 := (HEV.out.below HB3.out).at_ 6
  cases hT1 : sgB k o 5 9 13 with
  | true => as_aux_lemma =>
      have TF := sg_iff.1 hT1
      have HM := Lib.hid (HML.out 1 (agr (l ++ [1])) (by decide) (made_1 (.inr (.inl TF))))
      clear TF
      have HA := Lib.hid (show ∀ (W : World) (A' : Option Addr) (c' : Nat), Il W W.heap.size A' (l.length + 1) (l ++ [1]) → Calls Tryd.prog 65 #[.slice A' (l.length + 1) c'] W fun e w' => e = .returned (.bool (agr (l ++ [1]))) ∧ Below W.heap.size W w' from fun W A' c' h => agree_any h (Nat.le_refl _) (by have := HLEN.out; omega))
      have hz := HC3.out.at_ 0
      have hzo := HC3.out.open_ 0
      have hze := fun o => (HC3.out.alloc o).at_ 0
      obtain ⟨bz, hbz⟩ : ∃ b, agr (l ++ [1]) = b := ⟨_, rfl⟩
      rw [hbz] at HA HM
      clear hbz
      go_wp2_with (first | (at_builtin; (refine wp_one elemI V.heap.size (.tmp 57) (.tmp 59) rfl rfl rfl HO3.out rfl rfl (by have := HLEN.out; omega) (by have := HLEN.out; omega) (HB3.out.size) ?_; intro v4 w20 g1 g2 g3; obtain ⟨A4, c4, rfl, -, -⟩ := Row.form g1; have HCc := Lib.hid (keepc HC3.out HO3.out (by decide) g2); have HOz := Lib.hid (show w20.ownsRow V.heap.size tI 1 (.slice A4 (l.length + 1) c4) (l.length + 1) ((l ++ [1]).map (.int .i64)) from by rw [List.map_append]; exact g1); have HBy := Lib.hid (grown_low (al HB3.out (.cells #[.int .i64 1] tI)) g2 (fun b hb => own_low HO3.out b hb)); have hs0 := HCc.out.at_ 0; have hs1 := HCc.out.open_ 0; have hs2 := (HCc.out.set 0 (.slice A4 (l.length + 1) c4)).at_ 0; have HIz := Lib.hid (show Il (w20.setCell ⟨g, 0, none⟩ (.slice A4 (l.length + 1) c4)) (w20.setCell ⟨g, 0, none⟩ (.slice A4 (l.length + 1) c4)).heap.size A4 (l.length + 1) (l ++ [1]) from by have h := own_il HOz.out; refine ⟨?_, h.2⟩; have h2 := row_other (i := 0) (x := .slice A4 (l.length + 1) c4) h.1 (own_ne HOz.out HCc.out (by decide)); simpa using h2); have HBz := Lib.hid (Below.setCell (p := ⟨g, 0, none⟩) HBy.out (show V.heap.size ≤ g from HGE.out) (.slice A4 (l.length + 1) c4)); clear g1 g2 g3)) | (go_at_call 65; (with_reducible refine (HA.out _ _ _ HIz.out).mono ?_); rintro e21 w21 ⟨rfl, hb⟩; have HBE := Lib.hid (Mem.on HBV.out (Mem.on HBz.out hb)); clear hb) | (go_at_call 64; (with_reducible refine (made_res).mono ?_); rintro e22 w22 ⟨rfl, rfl⟩))
      go_ret2
      exact ⟨by rw [HM.out]; rfl, HBE.out⟩
  | false =>
  have E1 := Lib.hid hT1
  go_wp2_with (fail)
  go_at_call 63
  with_reducible refine (calls_any _).mono ?_
  rintro e4 w4 ⟨rfl, hb4⟩
  have HB4 := Lib.hid (Mem.on HB3.out hb4)
  have HO4 := Lib.hid (own_keep HO3.out hb4)
  have HC4 := Lib.hid (HC3.out.below hb4)
  clear hb4
  have y0 := (HEV.out.below HB4.out).at_ 0
  have y1 := (HEV.out.below HB4.out).at_ 1
  have y2 := (HEV.out.below HB4.out).at_ 2
  have y3 := (HEV.out.below HB4.out).at_ 3
  have y4 := (HEV.out.below HB4.out).at_ 4
  have y5 := (HEV.out.below HB4.out).at_ 5
  have y6 := (HEV.out.below HB4.out).at_ 6
  cases hT2 : clB k (txt nm) ⟨#[97, 98, 115]⟩ with
  | true => as_aux_lemma =>
      have TF : k = 7 ∧ nm = nAbs := cl_iff.1 hT2
      have HM := Lib.hid (HML.out 1 (agr (l ++ [1])) (by decide) (made_1 (.inr (.inr TF))))
      clear TF
      have HA := Lib.hid (show ∀ (W : World) (A' : Option Addr) (c' : Nat), Il W W.heap.size A' (l.length + 1) (l ++ [1]) → Calls Tryd.prog 65 #[.slice A' (l.length + 1) c'] W fun e w' => e = .returned (.bool (agr (l ++ [1]))) ∧ Below W.heap.size W w' from fun W A' c' h => agree_any h (Nat.le_refl _) (by have := HLEN.out; omega))
      have hz := HC4.out.at_ 0
      have hzo := HC4.out.open_ 0
      have hze := fun o => (HC4.out.alloc o).at_ 0
      obtain ⟨bz, hbz⟩ : ∃ b, agr (l ++ [1]) = b := ⟨_, rfl⟩
      rw [hbz] at HA HM
      clear hbz
      go_wp2_with (first | (at_builtin; (refine wp_one elemI V.heap.size (.tmp 57) (.tmp 59) rfl rfl rfl HO4.out rfl rfl (by have := HLEN.out; omega) (by have := HLEN.out; omega) (HB4.out.size) ?_; intro v4 w20 g1 g2 g3; obtain ⟨A4, c4, rfl, -, -⟩ := Row.form g1; have HCc := Lib.hid (keepc HC4.out HO4.out (by decide) g2); have HOz := Lib.hid (show w20.ownsRow V.heap.size tI 1 (.slice A4 (l.length + 1) c4) (l.length + 1) ((l ++ [1]).map (.int .i64)) from by rw [List.map_append]; exact g1); have HBy := Lib.hid (grown_low (al HB4.out (.cells #[.int .i64 1] tI)) g2 (fun b hb => own_low HO4.out b hb)); have hs0 := HCc.out.at_ 0; have hs1 := HCc.out.open_ 0; have hs2 := (HCc.out.set 0 (.slice A4 (l.length + 1) c4)).at_ 0; have HIz := Lib.hid (show Il (w20.setCell ⟨g, 0, none⟩ (.slice A4 (l.length + 1) c4)) (w20.setCell ⟨g, 0, none⟩ (.slice A4 (l.length + 1) c4)).heap.size A4 (l.length + 1) (l ++ [1]) from by have h := own_il HOz.out; refine ⟨?_, h.2⟩; have h2 := row_other (i := 0) (x := .slice A4 (l.length + 1) c4) h.1 (own_ne HOz.out HCc.out (by decide)); simpa using h2); have HBz := Lib.hid (Below.setCell (p := ⟨g, 0, none⟩) HBy.out (show V.heap.size ≤ g from HGE.out) (.slice A4 (l.length + 1) c4)); clear g1 g2 g3)) | (go_at_call 65; (with_reducible refine (HA.out _ _ _ HIz.out).mono ?_); rintro e21 w21 ⟨rfl, hb⟩; have HBE := Lib.hid (Mem.on HBV.out (Mem.on HBz.out hb)); clear hb) | (go_at_call 64; (with_reducible refine (made_res).mono ?_); rintro e22 w22 ⟨rfl, rfl⟩))
      go_ret2
      exact ⟨by rw [HM.out]; rfl, HBE.out⟩
  | false =>
  have E2 := Lib.hid hT2
  go_wp2_with (fail)
  go_at_call 62
  with_reducible refine (signs_any _ _ _).mono ?_
  rintro e5 w5 ⟨rfl, hb5⟩
  have HB5 := Lib.hid (Mem.on HB4.out hb5)
  have HO5 := Lib.hid (own_keep HO4.out hb5)
  have HC5 := Lib.hid (HC4.out.below hb5)
  clear hb5
  have y0 := (HEV.out.below HB5.out).at_ 0
  have y1 := (HEV.out.below HB5.out).at_ 1
  have y2 := (HEV.out.below HB5.out).at_ 2
  have y3 := (HEV.out.below HB5.out).at_ 3
  have y4 := (HEV.out.below HB5.out).at_ 4
  have y5 := (HEV.out.below HB5.out).at_ 5
  have y6 := (HEV.out.below HB5.out).at_ 6
  cases hT3 : sgB k o 4 2 2 with
  | true => as_aux_lemma =>
      have TF := sg_iff.1 hT3
      have HM := Lib.hid (HML.out 2 (agr (l ++ [2])) (by decide) (made_2 (.inl ⟨TF.1, by omega⟩)))
      clear TF
      have HA := Lib.hid (show ∀ (W : World) (A' : Option Addr) (c' : Nat), Il W W.heap.size A' (l.length + 1) (l ++ [2]) → Calls Tryd.prog 65 #[.slice A' (l.length + 1) c'] W fun e w' => e = .returned (.bool (agr (l ++ [2]))) ∧ Below W.heap.size W w' from fun W A' c' h => agree_any h (Nat.le_refl _) (by have := HLEN.out; omega))
      have hz := HC5.out.at_ 0
      have hzo := HC5.out.open_ 0
      have hze := fun o => (HC5.out.alloc o).at_ 0
      obtain ⟨bz, hbz⟩ : ∃ b, agr (l ++ [2]) = b := ⟨_, rfl⟩
      rw [hbz] at HA HM
      clear hbz
      go_wp2_with (first | (at_builtin; (refine wp_one elemI V.heap.size (.tmp 57) (.tmp 59) rfl rfl rfl HO5.out rfl rfl (by have := HLEN.out; omega) (by have := HLEN.out; omega) (HB5.out.size) ?_; intro v4 w20 g1 g2 g3; obtain ⟨A4, c4, rfl, -, -⟩ := Row.form g1; have HCc := Lib.hid (keepc HC5.out HO5.out (by decide) g2); have HOz := Lib.hid (show w20.ownsRow V.heap.size tI 1 (.slice A4 (l.length + 1) c4) (l.length + 1) ((l ++ [2]).map (.int .i64)) from by rw [List.map_append]; exact g1); have HBy := Lib.hid (grown_low (al HB5.out (.cells #[.int .i64 2] tI)) g2 (fun b hb => own_low HO5.out b hb)); have hs0 := HCc.out.at_ 0; have hs1 := HCc.out.open_ 0; have hs2 := (HCc.out.set 0 (.slice A4 (l.length + 1) c4)).at_ 0; have HIz := Lib.hid (show Il (w20.setCell ⟨g, 0, none⟩ (.slice A4 (l.length + 1) c4)) (w20.setCell ⟨g, 0, none⟩ (.slice A4 (l.length + 1) c4)).heap.size A4 (l.length + 1) (l ++ [2]) from by have h := own_il HOz.out; refine ⟨?_, h.2⟩; have h2 := row_other (i := 0) (x := .slice A4 (l.length + 1) c4) h.1 (own_ne HOz.out HCc.out (by decide)); simpa using h2); have HBz := Lib.hid (Below.setCell (p := ⟨g, 0, none⟩) HBy.out (show V.heap.size ≤ g from HGE.out) (.slice A4 (l.length + 1) c4)); clear g1 g2 g3)) | (go_at_call 65; (with_reducible refine (HA.out _ _ _ HIz.out).mono ?_); rintro e21 w21 ⟨rfl, hb⟩; have HBE := Lib.hid (Mem.on HBV.out (Mem.on HBz.out hb)); clear hb) | (go_at_call 64; (with_reducible refine (made_res).mono ?_); rintro e22 w22 ⟨rfl, rfl⟩))
      go_ret2
      exact ⟨by rw [HM.out]; rfl, HBE.out⟩
  | false =>
  have E3 := Lib.hid hT3
  go_wp2_with (fail)
  go_at_call 62
  with_reducible refine (signs_any _ _ _).mono ?_
  rintro e6 w6 ⟨rfl, hb6⟩
  have HB6 := Lib.hid (Mem.on HB5.out hb6)
  have HO6 := Lib.hid (own_keep HO5.out hb6)
  have HC6 := Lib.hid (HC5.out.below hb6)
  clear hb6
  have y0 := (HEV.out.below HB6.out).at_ 0
  have y1 := (HEV.out.below HB6.out).at_ 1
  have y2 := (HEV.out.below HB6.out).at_ 2
  have y3 := (HEV.out.below HB6.out).at_ 3
  have y4 := (HEV.out.below HB6.out).at_ 4
  have y5 := (HEV.out.below HB6.out).at_ 5
  have y6 := (HEV.out.below HB6.out).at_ 6
  cases hT4 : sgB k o 5 1 2 with
  | true => as_aux_lemma =>
      have TF := sg_iff.1 hT4
      have HM := Lib.hid (HML.out 2 (agr (l ++ [2])) (by decide) (made_2 (.inr TF)))
      clear TF
      have HA := Lib.hid (show ∀ (W : World) (A' : Option Addr) (c' : Nat), Il W W.heap.size A' (l.length + 1) (l ++ [2]) → Calls Tryd.prog 65 #[.slice A' (l.length + 1) c'] W fun e w' => e = .returned (.bool (agr (l ++ [2]))) ∧ Below W.heap.size W w' from fun W A' c' h => agree_any h (Nat.le_refl _) (by have := HLEN.out; omega))
      have hz := HC6.out.at_ 0
      have hzo := HC6.out.open_ 0
      have hze := fun o => (HC6.out.alloc o).at_ 0
      obtain ⟨bz, hbz⟩ : ∃ b, agr (l ++ [2]) = b := ⟨_, rfl⟩
      rw [hbz] at HA HM
      clear hbz
      go_wp2_with (first | (at_builtin; (refine wp_one elemI V.heap.size (.tmp 57) (.tmp 59) rfl rfl rfl HO6.out rfl rfl (by have := HLEN.out; omega) (by have := HLEN.out; omega) (HB6.out.size) ?_; intro v4 w20 g1 g2 g3; obtain ⟨A4, c4, rfl, -, -⟩ := Row.form g1; have HCc := Lib.hid (keepc HC6.out HO6.out (by decide) g2); have HOz := Lib.hid (show w20.ownsRow V.heap.size tI 1 (.slice A4 (l.length + 1) c4) (l.length + 1) ((l ++ [2]).map (.int .i64)) from by rw [List.map_append]; exact g1); have HBy := Lib.hid (grown_low (al HB6.out (.cells #[.int .i64 2] tI)) g2 (fun b hb => own_low HO6.out b hb)); have hs0 := HCc.out.at_ 0; have hs1 := HCc.out.open_ 0; have hs2 := (HCc.out.set 0 (.slice A4 (l.length + 1) c4)).at_ 0; have HIz := Lib.hid (show Il (w20.setCell ⟨g, 0, none⟩ (.slice A4 (l.length + 1) c4)) (w20.setCell ⟨g, 0, none⟩ (.slice A4 (l.length + 1) c4)).heap.size A4 (l.length + 1) (l ++ [2]) from by have h := own_il HOz.out; refine ⟨?_, h.2⟩; have h2 := row_other (i := 0) (x := .slice A4 (l.length + 1) c4) h.1 (own_ne HOz.out HCc.out (by decide)); simpa using h2); have HBz := Lib.hid (Below.setCell (p := ⟨g, 0, none⟩) HBy.out (show V.heap.size ≤ g from HGE.out) (.slice A4 (l.length + 1) c4)); clear g1 g2 g3)) | (go_at_call 65; (with_reducible refine (HA.out _ _ _ HIz.out).mono ?_); rintro e21 w21 ⟨rfl, hb⟩; have HBE := Lib.hid (Mem.on HBV.out (Mem.on HBz.out hb)); clear hb) | (go_at_call 64; (with_reducible refine (made_res).mono ?_); rintro e22 w22 ⟨rfl, rfl⟩))
      go_ret2
      exact ⟨by rw [HM.out]; rfl, HBE.out⟩
  | false =>
  have E4 := Lib.hid hT4
  go_wp2_with (fail)
  go_at_call 62
  with_reducible refine (signs_any _ _ _).mono ?_
  rintro e7 w7 ⟨rfl, hb7⟩
  have HB7 := Lib.hid (Mem.on HB6.out hb7)
  have HO7 := Lib.hid (own_keep HO6.out hb7)
  have HC7 := Lib.hid (HC6.out.below hb7)
  clear hb7
  have y0 := (HEV.out.below HB7.out).at_ 0
  have y1 := (HEV.out.below HB7.out).at_ 1
  have y2 := (HEV.out.below HB7.out).at_ 2
  have y3 := (HEV.out.below HB7.out).at_ 3
  have y4 := (HEV.out.below HB7.out).at_ 4
  have y5 := (HEV.out.below HB7.out).at_ 5
  have y6 := (HEV.out.below HB7.out).at_ 6
  cases hT5 : sgB k o 5 3 8 with
  | true => as_aux_lemma =>
      have TF := sg_iff.1 hT5
      have HM := Lib.hid (HML.out 2 (agr l) (by decide) (made_3 TF))
      clear TF
      have hz := HC7.out.at_ 0
      have HA := Lib.hid (show Calls Tryd.prog 65 #[.slice B1 l.length d1] w7 fun e w' => e = .returned (.bool (agr l)) ∧ Below w7.heap.size w7 w' from agree_any (own_il HO7.out) (Nat.le_refl _) (by have := HLEN.out; omega))
      obtain ⟨bz, hbz⟩ : ∃ b, agr l = b := ⟨_, rfl⟩
      rw [hbz] at HA HM
      clear hbz
      go_wp2_with (first | (go_at_call 65; (with_reducible refine HA.out.mono ?_); rintro e21 w21 ⟨rfl, hb⟩; have HBE := Lib.hid (Mem.on HBV.out (Mem.on HB7.out hb)); clear hb) | (go_at_call 64; (with_reducible refine (made_res).mono ?_); rintro e22 w22 ⟨rfl, rfl⟩))
      go_ret2
      exact ⟨by rw [HM.out]; rfl, HBE.out⟩
  | false =>
  have E5 := Lib.hid hT5
  go_wp2_with (fail)
  go_at_call 62
  with_reducible refine (signs_any _ _ _).mono ?_
  rintro e8 w8 ⟨rfl, hb8⟩
  have HB8 := Lib.hid (Mem.on HB7.out hb8)
  have HO8 := Lib.hid (own_keep HO7.out hb8)
  have HC8 := Lib.hid (HC7.out.below hb8)
  clear hb8
  have y0 := (HEV.out.below HB8.out).at_ 0
  have y1 := (HEV.out.below HB8.out).at_ 1
  have y2 := (HEV.out.below HB8.out).at_ 2
  have y3 := (HEV.out.below HB8.out).at_ 3
  have y4 := (HEV.out.below HB8.out).at_ 4
  have y5 := (HEV.out.below HB8.out).at_ 5
  have y6 := (HEV.out.below HB8.out).at_ 6
  cases hT6 : sgB k o 5 14 14 with
  | true => as_aux_lemma =>
      have TF := sg_iff.1 hT6
      have HM := Lib.hid (HML.out 3 (agr (l ++ [3])) (by decide) (made_4 ⟨TF.1, by omega⟩))
      clear TF
      have HA := Lib.hid (show ∀ (W : World) (A' : Option Addr) (c' : Nat), Il W W.heap.size A' (l.length + 1) (l ++ [3]) → Calls Tryd.prog 65 #[.slice A' (l.length + 1) c'] W fun e w' => e = .returned (.bool (agr (l ++ [3]))) ∧ Below W.heap.size W w' from fun W A' c' h => agree_any h (Nat.le_refl _) (by have := HLEN.out; omega))
      have hz := HC8.out.at_ 0
      have hzo := HC8.out.open_ 0
      have hze := fun o => (HC8.out.alloc o).at_ 0
      obtain ⟨bz, hbz⟩ : ∃ b, agr (l ++ [3]) = b := ⟨_, rfl⟩
      rw [hbz] at HA HM
      clear hbz
      go_wp2_with (first | (at_builtin; (refine wp_one elemI V.heap.size (.tmp 67) (.tmp 68) rfl rfl rfl HO8.out rfl rfl (by have := HLEN.out; omega) (by have := HLEN.out; omega) (HB8.out.size) ?_; intro v4 w20 g1 g2 g3; obtain ⟨A4, c4, rfl, -, -⟩ := Row.form g1; have HCc := Lib.hid (keepc HC8.out HO8.out (by decide) g2); have HOz := Lib.hid (show w20.ownsRow V.heap.size tI 1 (.slice A4 (l.length + 1) c4) (l.length + 1) ((l ++ [3]).map (.int .i64)) from by rw [List.map_append]; exact g1); have HBy := Lib.hid (grown_low (al HB8.out (.cells #[.int .i64 3] tI)) g2 (fun b hb => own_low HO8.out b hb)); clear g1 g2 g3)) | (go_at_call 65; (with_reducible refine (HA.out _ _ _ (own_il HOz.out)).mono ?_); rintro e21 w21 ⟨rfl, hb⟩; have HBE := Lib.hid (Mem.on HBV.out (Mem.on HBy.out hb)); clear hb) | (go_at_call 64; (with_reducible refine (made_res).mono ?_); rintro e22 w22 ⟨rfl, rfl⟩))
      go_ret2
      exact ⟨by rw [HM.out]; rfl, HBE.out⟩
  | false =>
  have E6 := Lib.hid hT6
  go_wp2_with (fail)
  go_at_call 63
  with_reducible refine (calls_any _).mono ?_
  rintro e9 w9 ⟨rfl, hb9⟩
  have HB9 := Lib.hid (Mem.on HB8.out hb9)
  have HO9 := Lib.hid (own_keep HO8.out hb9)
  have HC9 := Lib.hid (HC8.out.below hb9)
  clear hb9
  have y0 := (HEV.out.below HB9.out).at_ 0
  have y1 := (HEV.out.below HB9.out).at_ 1
  have y2 := (HEV.out.below HB9.out).at_ 2
  have y3 := (HEV.out.below HB9.out).at_ 3
  have y4 := (HEV.out.below HB9.out).at_ 4
  have y5 := (HEV.out.below HB9.out).at_ 5
  have y6 := (HEV.out.below HB9.out).at_ 6
  cases hT7 : clB k (txt nm) ⟨#[108, 101, 110, 103, 116, 104]⟩ with
  | true => as_aux_lemma =>
      have TF : k = 7 ∧ nm = nLen := cl_iff.1 hT7
      have HM := Lib.hid (HML.out 1 (agr (l ++ [3])) (by decide) (made_5 TF))
      clear TF
      have HA := Lib.hid (show ∀ (W : World) (A' : Option Addr) (c' : Nat), Il W W.heap.size A' (l.length + 1) (l ++ [3]) → Calls Tryd.prog 65 #[.slice A' (l.length + 1) c'] W fun e w' => e = .returned (.bool (agr (l ++ [3]))) ∧ Below W.heap.size W w' from fun W A' c' h => agree_any h (Nat.le_refl _) (by have := HLEN.out; omega))
      have hz := HC9.out.at_ 0
      have hzo := HC9.out.open_ 0
      have hze := fun o => (HC9.out.alloc o).at_ 0
      obtain ⟨bz, hbz⟩ : ∃ b, agr (l ++ [3]) = b := ⟨_, rfl⟩
      rw [hbz] at HA HM
      clear hbz
      go_wp2_with (first | (at_builtin; (refine wp_one elemI V.heap.size (.tmp 74) (.tmp 75) rfl rfl rfl HO9.out rfl rfl (by have := HLEN.out; omega) (by have := HLEN.out; omega) (HB9.out.size) ?_; intro v4 w20 g1 g2 g3; obtain ⟨A4, c4, rfl, -, -⟩ := Row.form g1; have HCc := Lib.hid (keepc HC9.out HO9.out (by decide) g2); have HOz := Lib.hid (show w20.ownsRow V.heap.size tI 1 (.slice A4 (l.length + 1) c4) (l.length + 1) ((l ++ [3]).map (.int .i64)) from by rw [List.map_append]; exact g1); have HBy := Lib.hid (grown_low (al HB9.out (.cells #[.int .i64 3] tI)) g2 (fun b hb => own_low HO9.out b hb)); clear g1 g2 g3)) | (go_at_call 65; (with_reducible refine (HA.out _ _ _ (own_il HOz.out)).mono ?_); rintro e21 w21 ⟨rfl, hb⟩; have HBE := Lib.hid (Mem.on HBV.out (Mem.on HBy.out hb)); clear hb) | (go_at_call 64; (with_reducible refine (made_res).mono ?_); rintro e22 w22 ⟨rfl, rfl⟩))
      go_ret2
      exact ⟨by rw [HM.out]; rfl, HBE.out⟩
  | false =>
  have E7 := Lib.hid hT7
  go_wp2_with (fail)
  go_at_call 63
  with_reducible refine (calls_any _).mono ?_
  rintro e10 w10 ⟨rfl, hb10⟩
  have HB10 := Lib.hid (Mem.on HB9.out hb10)
  have HO10 := Lib.hid (own_keep HO9.out hb10)
  have HC10 := Lib.hid (HC9.out.below hb10)
  clear hb10
  have y0 := (HEV.out.below HB10.out).at_ 0
  have y1 := (HEV.out.below HB10.out).at_ 1
  have y2 := (HEV.out.below HB10.out).at_ 2
  have y3 := (HEV.out.below HB10.out).at_ 3
  have y4 := (HEV.out.below HB10.out).at_ 4
  have y5 := (HEV.out.below HB10.out).at_ 5
  have y6 := (HEV.out.below HB10.out).at_ 6
  cases hT8 : clB k (txt nm) ⟨#[99, 111, 97, 108, 101, 115, 99, 101]⟩ with
  | true => as_aux_lemma =>
      have TF : k = 7 ∧ nm = nCoal := cl_iff.1 hT8
      have HM := Lib.hid (HML.out (firstT l) (agr l) (first_pos HPOS.out) (made_6 TF))
      clear TF
      have HA := Lib.hid (show ∀ W, Below w10.heap.size w10 W → Calls Tryd.prog 65 #[.slice B1 l.length d1] W fun e w' => e = .returned (.bool (agr l)) ∧ Below W.heap.size W w' from fun W hW => agree_any (own_il (own_keep HO10.out hW)) (Nat.le_refl _) (by have := HLEN.out; omega))
      have HK := Lib.hid (show ∀ W, Below w10.heap.size w10 W → Calls Tryd.prog 66 #[.slice B1 l.length d1] W fun e w' => e = .returned (.int .i64 (firstT l)) ∧ W = w' from fun W hW => known_any (own_il (own_keep HO10.out hW)) (by have := HLEN.out; omega))
      obtain ⟨bz, hbz⟩ : ∃ b, agr l = b := ⟨_, rfl⟩
      obtain ⟨fz, hfz⟩ : ∃ t, firstT l = t := ⟨_, rfl⟩
      rw [hbz] at HA HM
      rw [hfz] at HK HM
      clear hbz hfz
      go_wp2
      have HCW := Lib.hid (show ∀ W, Below w10.heap.size w10 W → W.cell? ⟨g, 0, none⟩ = some (.slice B1 l.length d1) from fun W hW => (HC10.out.below hW).at_ 0)
      have HBR := Lib.hid (Below.refl w10.heap.size w10).drew
      refine wp_region_class (w₀ := w10) HBR.out (by kernel_rfl) (by kernel_rfl) ?_
      have hcw : ∀ s : CW w10, s.val.cell? ⟨g, 0, none⟩ = some (.slice B1 l.length d1) := fun s => HCW.out _ s.h
      repeat (go_big_quiet_step ((first | (go_at_call 65; exact CW.calls (HA.out _ (CW.h _))) | (go_at_call 66; exact CW.calls ((HK.out _ (CW.h _)).mono fun e w' g => ⟨g.1, by rw [← g.2]; exact Below.refl _ _⟩)) | (go_at_call 64; exact CW.calls ((made_res).mono fun e w' g => ⟨g.1, by rw [← g.2]; exact Below.refl _ _⟩)))))
      refine wpQuiet_nil ?_
      rintro _ ⟨s, rfl⟩
      have HBE := Lib.hid (Mem.on HBV.out (Mem.on HB10.out s.h))
      generalize s.val = W9 at HBE ⊢
      go_wp2
      go_ret2
      exact ⟨by rw [HM.out]; rfl, HBE.out⟩
  | false =>
  have E8 := Lib.hid hT8
  by_cases hT9 : k = 6
  · as_aux_lemma =>
      have TF := hT9
      have tk : (k == 6) = true := by simp [hT9]
      obtain ⟨t1, tl, rfl⟩ : ∃ t1 tl, l = t1 :: tl := by
        rcases l with _ | ⟨t1, tl⟩
        · have h1 := HLEN.out; have h2 := HFORM.out; simp at h1; omega
        · exact ⟨t1, tl, rfl⟩
      have h2 : 2 ≤ (t1 :: tl).length := by have h1 := HLEN.out; have h2 := HFORM.out; omega
      obtain ⟨gb, cap, cur, hgb, -, -, hcap, -⟩ := (HO10.out.2).resolve_left (fun h => by have := h.2; simp at this)
      injection hgb with hgb1 _ hgb3
      subst hgb1 hgb3
      have HM := Lib.hid (HML.out 2 (tl.all fun x => agr [t1, x]) (by decide) (by rw [TF]; exact made_in))
      clear TF hT9
      have hz := HC10.out.at_ 0
      have hsl := slice_tail gb (t1 :: tl).length d1 (by omega) (by omega) hcap
      have HF := Lib.hid (show Calls Tryd.prog 68 #[.slice (some ⟨gb, 1, none⟩) tl.length (d1 - 1), .func (.func 67) #[] #[.pointer (some ⟨g, 0, none⟩)]] w10 fun e w' => e = .returned (.bool (tl.any fun x => !agr [t1, x])) ∧ Below w10.heap.size w10 w' from containsS_any (tail_il (own_il HO10.out)) (Nat.le_refl _) (by have := HLEN.out; omega) _ (fun x => !agr [t1, x]) fun k x W _ hW => of1_any (HC10.out.below hW) (own_il (own_keep HO10.out hW)) rfl)
      have HN := Lib.hid (all_not tl t1)
      obtain ⟨bz, hbz⟩ : ∃ b, (tl.any fun x => !agr [t1, x]) = b := ⟨_, rfl⟩
      rw [← HN.out, hbz] at HM
      rw [hbz] at HF
      clear hbz HN
      go_wp2_with (first | (go_at_call 68; (with_reducible refine HF.out.mono ?_); rintro e21 w21 ⟨rfl, hb⟩; have HBE := Lib.hid (Mem.on HBV.out (Mem.on HB10.out hb)); clear hb) | (go_at_call 64; (with_reducible refine (made_res).mono ?_); rintro e22 w22 ⟨rfl, rfl⟩))
      go_ret2
      exact ⟨by rw [HM.out]; rfl, HBE.out⟩
  have tk : (k == 6) = false := beq_eq_false_iff_ne.2 hT9
  have TF : k = 4 ∧ 2 < o := by
    have h := HFORM.out
    have f := fun (a b c : Int) (e : sgB k o a b c = false) (g : k = a ∧ b ≤ o ∧ o ≤ c) => (show False from absurd (sg_iff.2 g) (by rw [e]; decide))
    have f0 := f _ _ _ E0.out
    have f1 := f _ _ _ E1.out
    have f3 := f _ _ _ E3.out
    have f4 := f _ _ _ E4.out
    have f5 := f _ _ _ E5.out
    have f6 := f _ _ _ E6.out
    have c := fun (s : ByteArray) (e : clB k (txt nm) s = false) (g : k = 7 ∧ nm = s.data.toList) => (show False from absurd (cl_iff.2 g) (by rw [e]; decide))
    have c2 := c _ E2.out
    have c7 := c _ E7.out
    have c8 := c _ E8.out
    rcases h with h | h | h | h
    · by_cases ho : o ≤ 2
      · by_cases h1 : o = 1
        · exact (f0 ⟨h.1, by omega, by omega⟩).elim
        · exact (f3 ⟨h.1, by omega, by omega⟩).elim
      · exact ⟨h.1, by omega⟩
    · by_cases h2 : o ≤ 2
      · exact (f4 ⟨h.1, by omega, by omega⟩).elim
      · by_cases h8 : o ≤ 8
        · exact (f5 ⟨h.1, by omega, by omega⟩).elim
        · by_cases h13 : o ≤ 13
          · exact (f1 ⟨h.1, by omega, by omega⟩).elim
          · exact (f6 ⟨h.1, by omega, by omega⟩).elim
    · exact absurd h.1 hT9
    · rcases h.2 with g | g | g
      · exact (c8 ⟨h.1, g⟩).elim
      · exact (c7 ⟨h.1, g⟩).elim
      · exact (c2 ⟨h.1, g⟩).elim
  have HM := Lib.hid (HML.out 2 true (by decide) (made_8 TF))
  clear TF hT9
  have HBE := Lib.hid (Mem.on HBV.out HB10.out)
  go_wp2
  go_ret2
  exact ⟨by rw [HM.out]; rfl, HBE.out⟩
end Go.Proofs.YtciclpbbegkpcaaDoor.Ev
