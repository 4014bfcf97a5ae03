/- Places for columns: the program's call over a table of one column, for the law's example. -/
import Derived.Deep.LoopGhost
import Derived.Lib.MinMax
import Derived.Test.YtjehhgilpadeiaaDoorJ30
import Derived.Test.YtjehhgilpadeiaaDoorJ31
namespace Go.Proofs.YtjehhgilpadeiaaDoor.Ev
open Go.RowKit Go.Proofs.YtjehhgilpadeiaaDoor.Mem Go.Proofs.YtjehhgilpadeiaaDoor.Right Go.Proofs.YtjehhgilpadeiaaDoor.Lx Go.Proofs.YtjehhgilpadeiaaDoor.Ep
set_option linter.unusedVariables false
/-- A slot, a parameter, without kids. -/
abbrev slotC : List Value := [.int .i64 8, .int .i64 0, .int .i64 0, .int .i64 0, .string ⟨#[]⟩, .string ⟨#[]⟩, .slice none 0 0]
abbrev parC : List Value := [.int .i64 3, .int .i64 1, .int .i64 0, .int .i64 0, .string ⟨#[]⟩, .string ⟨#[]⟩, .slice none 0 0]
abbrev colC (nm : ByteArray) : List Value := [.int .i64 2, .int .i64 0, .int .i64 0, .int .i64 0, .string ⟨#[]⟩, .string nm, .slice none 0 0]
section
variable {w : World} {n1 n2 nm : ByteArray} {ty : Int} {A : Option Addr} {c : Nat}
set_option maxRecDepth 100000 in
set_option maxHeartbeats 1000000 in
theorem placed_col (h : Tb1 w nm ty A c) : Calls Tryd.prog 104 #[tbV n1 n2 A c, .agg (colC nm).toArray] w fun e w' => e = .returned (.tuple #[.agg slotC.toArray, .int .i64 0]) ∧ Below w.heap.size w w' := by
  obtain ⟨V, hV⟩ : ∃ V, ((w.alloc (.cells #[.string n1, .string n2, .int .i64 0, .slice A 1 c, .slice none 0 0, .slice none 0 0] 26)).alloc (.cells #[.int .i64 2, .int .i64 0, .int .i64 0, .int .i64 0, .string ⟨#[]⟩, .string nm, .slice none 0 0] 61)).alloc (.cells #[.int .i64 0, .int .i64 0, .int .i64 0, .int .i64 0, .string ⟨#[]⟩, .string ⟨#[]⟩, .slice none 0 0] 61) = V := ⟨_, rfl⟩
  have hbv : Below w.heap.size w V := by rw [← hV]; exact al (al (al (Below.refl _ _) _) _) _
  have HBV := Lib.hid hbv
  have HTV : Cel V w.heap.size 26 #[.string n1, .string n2, .int .i64 0, .slice A 1 c, .slice none 0 0, .slice none 0 0] := by rw [← hV]; exact ((Cel.new w _ _ rfl).alloc _).alloc _
  have HEV : Cel V (w.heap.size + 1) 61 #[.int .i64 2, .int .i64 0, .int .i64 0, .int .i64 0, .string ⟨#[]⟩, .string nm, .slice none 0 0] := by rw [← hV]; exact (Cel.new _ _ _ (by simp)).alloc _
  have HRV := Lib.hid (show Cel V (w.heap.size + 2) 61 #[.int .i64 0, .int .i64 0, .int .i64 0, .int .i64 0, .string ⟨#[]⟩, .string ⟨#[]⟩, .slice none 0 0] from by rw [← hV]; exact Cel.new _ _ _ (by simp))
  have x0 := HTV.at_ 0
  have x1 := HTV.at_ 1
  have x2 := HTV.at_ 2
  have x3 := HTV.at_ 3
  have x4 := HTV.at_ 4
  have x5 := HTV.at_ 5
  have y0 := HEV.at_ 0
  have y5 := HEV.at_ 5
  have HC := Lib.hid (col_any (n1 := n1) (n2 := n2) (h.below hbv))
  clear h hbv HTV HEV
  go_enter Tryd.func104, Tryd.ntmps104
  go_wp2_with (first | (go_at_call 18; (with_reducible refine HC.out.mono ?_); rintro e' w1 ⟨rfl, hb1⟩; have HB1 := Lib.hid (Mem.on HBV.out hb1); have HR1 := Lib.hid (HRV.out.below hb1); clear hb1) | (refine store_str rfl tEx _ _ rfl (w.heap.size + 2) rfl _ slotC rfl HR1.out rfl rfl (fun v hv => List.all_eq_true.1 (show (slotC : List Value).all (·.oneCell') = true from rfl) v hv) ?_; intro wF hcF haF; have HCF := Lib.hid hcF; have HAF := Lib.hid (HB1.out.trans (haF.to_below (by have := HB1.out.size; omega) (by simp))); clear hcF haF))
  (try simp only [Exit.inBlock, Exit.then])
  refine bodyPost_ret (res_cell_tmp rfl _ _ (w.heap.size + 2) slotC _ rfl HCF.out Tryd.underlying61 rfl rfl _ rfl) rfl ?_
  exact ⟨rfl, HAF.out⟩
set_option maxRecDepth 100000 in
set_option maxHeartbeats 1000000 in
theorem placed_par : Calls Tryd.prog 104 #[tbV n1 n2 A c, .agg parC.toArray] w fun e w' => e = .returned (.tuple #[.agg parC.toArray, .int .i64 0]) ∧ Below w.heap.size w w' := by
  obtain ⟨V, hV⟩ : ∃ V, ((w.alloc (.cells #[.string n1, .string n2, .int .i64 0, .slice A 1 c, .slice none 0 0, .slice none 0 0] 26)).alloc (.cells #[.int .i64 3, .int .i64 1, .int .i64 0, .int .i64 0, .string ⟨#[]⟩, .string ⟨#[]⟩, .slice none 0 0] 61)).alloc (.cells #[.int .i64 0, .int .i64 0, .int .i64 0, .int .i64 0, .string ⟨#[]⟩, .string ⟨#[]⟩, .slice none 0 0] 61) = V := ⟨_, rfl⟩
  have hbv : Below w.heap.size w V := by rw [← hV]; exact al (al (al (Below.refl _ _) _) _) _
  have HBV := Lib.hid hbv
  have HEV : Cel V (w.heap.size + 1) 61 #[.int .i64 3, .int .i64 1, .int .i64 0, .int .i64 0, .string ⟨#[]⟩, .string ⟨#[]⟩, .slice none 0 0] := by rw [← hV]; exact (Cel.new _ _ _ (by simp)).alloc _
  have HRV := Lib.hid (show Cel V (w.heap.size + 2) 61 #[.int .i64 0, .int .i64 0, .int .i64 0, .int .i64 0, .string ⟨#[]⟩, .string ⟨#[]⟩, .slice none 0 0] from by rw [← hV]; exact Cel.new _ _ _ (by simp))
  have y0 := HEV.at_ 0
  have y6 := HEV.at_ 6
  have z6 := HEV.open_ 6
  have HE1 := Lib.hid (show Cel (V.setCell ⟨w.heap.size + 1, 6, none⟩ (.slice none 0 0)) (w.heap.size + 1) 61 (parC : List Value).toArray from HEV.set 6 _)
  have HR1 := Lib.hid (show Cel (V.setCell ⟨w.heap.size + 1, 6, none⟩ (.slice none 0 0)) (w.heap.size + 2) 61 #[.int .i64 0, .int .i64 0, .int .i64 0, .int .i64 0, .string ⟨#[]⟩, .string ⟨#[]⟩, .slice none 0 0] from HRV.out.other (by omega) _ _)
  have HB1 := Lib.hid (HBV.out.setCell (p := ⟨w.heap.size + 1, 6, none⟩) (Nat.le_succ _) (.slice none 0 0))
  clear hbv HEV
  go_enter Tryd.func104, Tryd.ntmps104
  go_wp2_with (go_at_call 129; (with_reducible refine (grow_none _).mono ?_); rintro e' w1 ⟨rfl, rfl⟩)
  go_loopw [7, 31] (fun v i wr => v = .slice none 0 0 ∧ i = .int .i64 0 ∧ wr = V) (fun _ _ _ => 1)
  case atStart => exact ⟨rfl, rfl, rfl⟩
  case round =>
    obtain ⟨rfl, rfl, rfl⟩ := hrel
    go_wp2_with (first | (refine load_str rfl tEx _ rfl (w.heap.size + 1) rfl parC HE1.out _ Tryd.underlying61 rfl rfl ?_) | (refine store_str rfl tEx _ _ rfl (w.heap.size + 2) rfl _ parC rfl HR1.out rfl rfl (fun v hv => List.all_eq_true.1 (show (parC : List Value).all (·.oneCell') = true from rfl) v hv) ?_; intro wF hcF haF; have HCF := Lib.hid hcF; have HAF := Lib.hid (HB1.out.trans (haF.to_below (by have := HB1.out.size; omega) (by simp))); clear hcF haF))
    (try simp only [Exit.inBlock, Exit.then])
    refine bodyPost_ret (res_cell_tmp rfl _ _ (w.heap.size + 2) parC _ rfl HCF.out Tryd.underlying61 rfl rfl _ rfl) rfl ?_
    exact ⟨rfl, HAF.out⟩
end
end Go.Proofs.YtjehhgilpadeiaaDoor.Ev
