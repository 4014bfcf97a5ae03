/- Resolve, and a table's columns' types, for the law's example. -/
import Derived.Test.YtjehhgilpadeiaaDoorJ33
namespace Go.Proofs.YtjehhgilpadeiaaDoor.Ev
open Go.RowKit Go.Proofs.YtjehhgilpadeiaaDoor.Mem Go.Proofs.YtjehhgilpadeiaaDoor.Right Go.Proofs.YtjehhgilpadeiaaDoor.Lx Go.Proofs.YtjehhgilpadeiaaDoor.Ep
set_option linter.unusedVariables false
set_option linter.unusedSimpArgs false
/-- The example's sum: a column and a parameter. -/
abbrev exS : Ex := .mk 5 9 0 0 [] [] [.mk 2 0 0 0 [] [97] [], .mk 3 1 0 0 [] [] []]
theorem exS_in {w : World} {b : Nat} (h : Kd2 w b (txt [97])) : ExAt w w.heap.size exS [.int .i64 5, .int .i64 9, .int .i64 0, .int .i64 0, .string ⟨#[]⟩, .string ⟨#[]⟩, .slice (some ⟨b, 0, none⟩) 2 2] := by
  refine (exIn_mk _ _ _ _ _ _ _ _ _ _).2 ⟨some ⟨b, 0, none⟩, 2, rfl, Nat.le_refl _, by decide, (fun e => by cases e), KidsIn.of fun j x hx => ?_⟩
  rcases j with _ | j
  · obtain rfl : Ex.mk 2 0 0 0 [] [97] [] = x := by simpa using hx
    refine ⟨b, 0, colC (txt [97]), rfl, h.1, rfl, fun i u hu => ?_, (exIn_mk _ _ _ _ _ _ _ _ _ _).2 ⟨none, 0, rfl, Nat.le_refl _, Nat.zero_le _, fun _ => rfl, kidsIn_nil _ _ _ _⟩⟩
    have hi := (List.getElem?_eq_some_iff.1 hu).1
    rw [show 0 + (0 + 0) * 7 + i = i by omega]
    exact h.2 i u (by rw [List.getElem?_append_left hi]; exact hu)
  · rcases j with _ | j
    · obtain rfl : Ex.mk 3 1 0 0 [] [] [] = x := by simpa using hx
      refine ⟨b, 0, parC, rfl, h.1, rfl, fun i u hu => ?_, leaf_in _ _ 3 1⟩
      have hi := (List.getElem?_eq_some_iff.1 hu).1
      rw [show 0 + (0 + (0 + 1)) * 7 + i = 7 + i by omega]
      exact h.2 (7 + i) u (by rw [List.getElem?_append_right (by show 7 ≤ 7 + i; omega)]; rw [show 7 + i - (colC (txt [97])).length = i by show 7 + i - 7 = i; omega]; exact hu)
    · simp at hx
theorem exS_lim : Lim exS := by
  refine (lim_mk ..).2 ⟨by decide, by decide, fun x hx => ?_⟩
  rcases List.mem_cons.1 hx with rfl | hx
  · exact (lim_mk ..).2 ⟨by decide, by decide, fun x hx => by cases hx⟩
  · obtain rfl : x = Ex.mk 3 1 0 0 [] [] [] := by simpa using hx
    exact (lim_mk ..).2 ⟨by decide, by decide, fun x hx => by cases hx⟩
theorem suE_lim : Lim suE := by
  refine (lim_mk ..).2 ⟨by decide, by decide, fun x hx => ?_⟩
  rcases List.mem_cons.1 hx with rfl | hx
  · exact (lim_mk ..).2 ⟨by decide, by decide, fun x hx => by cases hx⟩
  · obtain rfl : x = paE := by simpa using hx
    exact (lim_mk ..).2 ⟨by decide, by decide, fun x hx => by cases hx⟩
theorem exS_ck : checkE false exS = 0 := by decide +kernel
set_option maxRecDepth 100000 in
set_option maxHeartbeats 4000000 in
theorem resolve_any {w : World} {n1 n2 : ByteArray} {ty : Int} {g b : Nat} (h : Tb1 w (txt [97]) ty (some ⟨g, 0, none⟩) 1) (hk : Kd2 w b (txt [97])) (hs : Signs w) : Calls Tryd.prog 75 #[tbV n1 n2 (some ⟨g, 0, none⟩) 1, .agg #[.int .i64 5, .int .i64 9, .int .i64 0, .int .i64 0, .string ⟨#[]⟩, .string ⟨#[]⟩, .slice (some ⟨b, 0, none⟩) 2 2]] w fun e w' => ∃ B' c', e = .returned (.tuple #[.agg #[.int .i64 5, .int .i64 9, .int .i64 0, .int .i64 0, .string ⟨#[]⟩, .string ⟨#[]⟩, .slice B' 2 c'], .int .i64 0]) ∧ ExIn w' (fun x => w.heap.size ≤ x ∧ x < w'.heap.size) suE [.int .i64 5, .int .i64 9, .int .i64 0, .int .i64 0, .string ⟨#[]⟩, .string ⟨#[]⟩, .slice B' 2 c'] ∧ Below w.heap.size w w' := by
  obtain ⟨V, hV⟩ : ∃ V, ((w.alloc (.cells #[.string n1, .string n2, .int .i64 0, .slice (some ⟨g, 0, none⟩) 1 1, .slice none 0 0, .slice none 0 0] 26)).alloc (.cells #[.int .i64 5, .int .i64 9, .int .i64 0, .int .i64 0, .string ⟨#[]⟩, .string ⟨#[]⟩, .slice (some ⟨b, 0, none⟩) 2 2] 61)).alloc (.cells #[.int .i64 0, .int .i64 0, .int .i64 0, .int .i64 0, .string ⟨#[]⟩, .string ⟨#[]⟩, .slice none 0 0] 61) = V := ⟨_, rfl⟩
  have hbv : Below w.heap.size w V := by rw [← hV]; exact al (al (al (Below.refl _ _) _) _) _
  have hsz : V.heap.size = w.heap.size + 3 := by rw [← hV]; simp
  have HBV := Lib.hid hbv
  have HSZ := Lib.hid hsz
  have HTV := Lib.hid (show Cel V w.heap.size 26 #[.string n1, .string n2, .int .i64 0, .slice (some ⟨g, 0, none⟩) 1 1, .slice none 0 0, .slice none 0 0] from by rw [← hV]; exact ((Cel.new w _ _ rfl).alloc _).alloc _)
  have HEV := Lib.hid (show Cel V (w.heap.size + 1) 61 #[.int .i64 5, .int .i64 9, .int .i64 0, .int .i64 0, .string ⟨#[]⟩, .string ⟨#[]⟩, .slice (some ⟨b, 0, none⟩) 2 2] from by rw [← hV]; exact (Cel.new _ _ _ (by simp)).alloc _)
  have HRV := Lib.hid (show Cel V (w.heap.size + 2) 61 #[.int .i64 0, .int .i64 0, .int .i64 0, .int .i64 0, .string ⟨#[]⟩, .string ⟨#[]⟩, .slice none 0 0] from by rw [← hV]; exact Cel.new _ _ _ (by simp))
  have HCK := Lib.hid (show Calls Tryd.prog 77 #[.agg #[.int .i64 5, .int .i64 9, .int .i64 0, .int .i64 0, .string ⟨#[]⟩, .string ⟨#[]⟩, .slice (some ⟨b, 0, none⟩) 2 2], .bool false] V fun x w' => x = .returned (.int .i64 0) ∧ Below V.heap.size V w' from by
    have := check_any exS _ false V (exS_in (hk.below hbv)) (hs.below hbv hs.lt) exS_lim
    rwa [exS_ck] at this)
  have HPL := Lib.hid (show ∀ W, Below w.heap.size w W → Calls Tryd.prog 104 #[tbV n1 n2 (some ⟨g, 0, none⟩) 1, .agg #[.int .i64 5, .int .i64 9, .int .i64 0, .int .i64 0, .string ⟨#[]⟩, .string ⟨#[]⟩, .slice (some ⟨b, 0, none⟩) 2 2]] W fun e w' => ∃ B' c', e = .returned (.tuple #[.agg #[.int .i64 5, .int .i64 9, .int .i64 0, .int .i64 0, .string ⟨#[]⟩, .string ⟨#[]⟩, .slice B' 2 c'], .int .i64 0]) ∧ ExIn w' (fun x => W.heap.size ≤ x ∧ x < w'.heap.size) suE [.int .i64 5, .int .i64 9, .int .i64 0, .int .i64 0, .string ⟨#[]⟩, .string ⟨#[]⟩, .slice B' 2 c'] ∧ Below W.heap.size W w' from fun W hW => placed_bin (h.below hW) (hk.below hW) (Nat.le_refl _))
  have y0 := HEV.out.at_ 0
  have y1 := HEV.out.at_ 1
  have y2 := HEV.out.at_ 2
  have y3 := HEV.out.at_ 3
  have y4 := HEV.out.at_ 4
  have y5 := HEV.out.at_ 5
  have y6 := HEV.out.at_ 6
  have hmin : min (1 : Int) 6 = 1 := by decide
  clear h hk hbv hsz hs
  go_enter Tryd.func75, Tryd.ntmps75
  go_wp2_with (fail)
  go_at_call 77
  with_reducible refine HCK.out.mono ?_
  rintro e1 w1 ⟨rfl, hb1⟩
  have HB1 := Lib.hid (Mem.on HBV.out hb1)
  have HT1 := Lib.hid (HTV.out.below hb1)
  have HE1 := Lib.hid (HEV.out.below hb1)
  have HR1 := Lib.hid (HRV.out.below hb1)
  have HS1 := Lib.hid hb1.size
  clear hb1
  have t3 := HT1.out.at_ 3
  have to3 := HT1.out.open_ 3
  have HT2 := Lib.hid (show Cel (w1.setCell ⟨w.heap.size, 3, none⟩ (.slice (some ⟨g, 0, none⟩) 1 1)) w.heap.size 26 (([.string n1, .string n2, .int .i64 0, .slice (some ⟨g, 0, none⟩) 1 1, .slice none 0 0, .slice none 0 0] : List Value).toArray) from HT1.out.set 3 _)
  have HE2 := Lib.hid (show Cel (w1.setCell ⟨w.heap.size, 3, none⟩ (.slice (some ⟨g, 0, none⟩) 1 1)) (w.heap.size + 1) 61 (([.int .i64 5, .int .i64 9, .int .i64 0, .int .i64 0, .string ⟨#[]⟩, .string ⟨#[]⟩, .slice (some ⟨b, 0, none⟩) 2 2] : List Value).toArray) from HE1.out.other (by omega) _ _)
  have HR2 := Lib.hid (show Cel (w1.setCell ⟨w.heap.size, 3, none⟩ (.slice (some ⟨g, 0, none⟩) 1 1)) (w.heap.size + 2) 61 #[.int .i64 0, .int .i64 0, .int .i64 0, .int .i64 0, .string ⟨#[]⟩, .string ⟨#[]⟩, .slice none 0 0] from HR1.out.other (by omega) _ _)
  have HB2 := Lib.hid (HB1.out.setCell (p := ⟨w.heap.size, 3, none⟩) (Nat.le_refl _) (.slice (some ⟨g, 0, none⟩) 1 1))
  have u0 := HT2.out.at_ 0
  have u1 := HT2.out.at_ 1
  have u2 := HT2.out.at_ 2
  have u3 := HT2.out.at_ 3
  have u4 := HT2.out.at_ 4
  have u5 := HT2.out.at_ 5
  have v0 := HE2.out.at_ 0
  have v1 := HE2.out.at_ 1
  have v2 := HE2.out.at_ 2
  have v3 := HE2.out.at_ 3
  have v4 := HE2.out.at_ 4
  have v5 := HE2.out.at_ 5
  have v6 := HE2.out.at_ 6
  go_wp2_with (first | (go_at_call 104; (with_reducible refine (HPL.out _ HB2.out).mono ?_); rintro e3 w3 ⟨B', c', rfl, hx, hb3⟩; have HX := Lib.hid hx; have HB3 := Lib.hid (Mem.on HB2.out hb3); have HR3 := Lib.hid (HR2.out.below hb3); clear hx hb3) | (refine store_str rfl tEx _ _ rfl (w.heap.size + 2) rfl _ [.int .i64 5, .int .i64 9, .int .i64 0, .int .i64 0, .string ⟨#[]⟩, .string ⟨#[]⟩, .slice B' 2 c'] rfl HR3.out rfl rfl (fun v hv => List.all_eq_true.1 (show ([.int .i64 5, .int .i64 9, .int .i64 0, .int .i64 0, .string ⟨#[]⟩, .string ⟨#[]⟩, .slice B' 2 c'] : List Value).all (·.oneCell') = true from rfl) v hv) ?_; intro wF hcF haF; have HCF := Lib.hid hcF; have HAF := Lib.hid haF; clear hcF haF))
  (try simp only [Exit.inBlock, Exit.then])
  refine bodyPost_ret (res_cell_tmp rfl _ _ (w.heap.size + 2) [.int .i64 5, .int .i64 9, .int .i64 0, .int .i64 0, .string ⟨#[]⟩, .string ⟨#[]⟩, .slice B' 2 c'] _ rfl HCF.out Tryd.underlying61 rfl rfl _ rfl) rfl ?_
  refine ⟨B', c', rfl, ?_, HB3.out.trans (HAF.out.to_below (by have := HB3.out.size; omega) (by simp))⟩
  refine ExIn.to (fun x hx => ?_) (fun p hp => ?_) _ _ HX.out
  · have hs2 := HB2.out.size
    have hs3 := HAF.out.size
    exact ⟨by omega, by omega⟩
  · have hs2 := HS1.out
    have hs3 := HSZ.out
    have hp1 := hp.1
    simp at hp1
    exact World.cell?_of_block (HAF.out.blk _ hp.2 (by simp; omega))
end Go.Proofs.YtjehhgilpadeiaaDoor.Ev
