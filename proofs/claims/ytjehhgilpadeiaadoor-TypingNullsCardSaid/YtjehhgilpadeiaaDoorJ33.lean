/- Places for columns: a sum of a column and a parameter, for the law's example. -/
import Derived.Test.YtjehhgilpadeiaaDoorJ32
namespace Go.Proofs.YtjehhgilpadeiaaDoor.Ev
open Go.RowKit Go.Proofs.YtjehhgilpadeiaaDoor.Mem Go.Proofs.YtjehhgilpadeiaaDoor.Right Go.Proofs.YtjehhgilpadeiaaDoor.Lx Go.Proofs.YtjehhgilpadeiaaDoor.Ep
set_option linter.unusedVariables false
set_option linter.unusedSimpArgs false
theorem elemT : ElemK Tryd.prog 59 tEx 7 88 := ElemK.of (z := .agg #[.int .i64 0, .int .i64 0, .int .i64 0, .int .i64 0, .string ⟨#[]⟩, .string ⟨#[]⟩, .slice none 0 0]) Tryd.underlying59 (by kernel_rfl) (by decide) (by decide)
/-- The two kids, in a block. -/
def Kd2 (w : World) (b : Nat) (nm : ByteArray) : Prop := b < w.heap.size ∧ ∀ i v, (colC nm ++ parC)[i]? = some v → w.cell? ⟨b, i, none⟩ = some v
theorem Kd2.below {w w' : World} {b : Nat} {nm : ByteArray} (h : Kd2 w b nm) (hb : Below w.heap.size w w') : Kd2 w' b nm := ⟨Nat.lt_of_lt_of_le h.1 hb.size, fun i v hv => (hb.cell (p := ⟨b, i, none⟩) h.1).trans (h.2 i v hv)⟩
abbrev slE : Ex := .mk 8 0 0 0 [] [] []
abbrev paE : Ex := .mk 3 1 0 0 [] [] []
abbrev suE : Ex := .mk 5 9 0 0 [] [] [slE, paE]
theorem leaf_in (w : World) (S : Nat → Prop) (k o : Int) : ExIn w S (.mk k o 0 0 [] [] []) [.int .i64 k, .int .i64 o, .int .i64 0, .int .i64 0, .string ⟨#[]⟩, .string ⟨#[]⟩, .slice none 0 0] :=
  (exIn_mk _ _ _ _ _ _ _ _ _ _).2 ⟨none, 0, rfl, Nat.le_refl _, Nat.zero_le _, fun _ => rfl, kidsIn_nil _ _ _ _⟩
set_option maxRecDepth 100000 in
set_option maxHeartbeats 4000000 in
theorem placed_bin {w : World} {n1 n2 nm : ByteArray} {ty : Int} {A : Option Addr} {c b ck : Nat} (h : Tb1 w nm ty A c) (hk : Kd2 w b nm) (hck : 2 ≤ ck) : Calls Tryd.prog 104 #[tbV n1 n2 A c, .agg #[.int .i64 5, .int .i64 9, .int .i64 0, .int .i64 0, .string ⟨#[]⟩, .string ⟨#[]⟩, .slice (some ⟨b, 0, none⟩) 2 ck]] w fun e w' => ∃ B' c', e = .returned (.tuple #[.agg #[.int .i64 5, .int .i64 9, .int .i64 0, .int .i64 0, .string ⟨#[]⟩, .string ⟨#[]⟩, .slice B' 2 c'], .int .i64 0]) ∧ ExIn w' (fun x => w.heap.size ≤ x ∧ x < w'.heap.size) suE [.int .i64 5, .int .i64 9, .int .i64 0, .int .i64 0, .string ⟨#[]⟩, .string ⟨#[]⟩, .slice B' 2 c'] ∧ Below w.heap.size w w' := by
  obtain ⟨V, hV⟩ : ∃ V, ((w.alloc (.cells #[.string n1, .string n2, .int .i64 0, .slice A 1 c, .slice none 0 0, .slice none 0 0] 26)).alloc (.cells #[.int .i64 5, .int .i64 9, .int .i64 0, .int .i64 0, .string ⟨#[]⟩, .string ⟨#[]⟩, .slice (some ⟨b, 0, none⟩) 2 ck] 61)).alloc (.cells #[.int .i64 0, .int .i64 0, .int .i64 0, .int .i64 0, .string ⟨#[]⟩, .string ⟨#[]⟩, .slice none 0 0] 61) = V := ⟨_, rfl⟩
  have hbv : Below w.heap.size w V := by rw [← hV]; exact al (al (al (Below.refl _ _) _) _) _
  have hsz : V.heap.size = w.heap.size + 3 := by rw [← hV]; simp
  have HBV := Lib.hid hbv
  have HSZ := Lib.hid hsz
  have HTV := Lib.hid (show Cel V w.heap.size 26 #[.string n1, .string n2, .int .i64 0, .slice A 1 c, .slice none 0 0, .slice none 0 0] from by rw [← hV]; exact ((Cel.new w _ _ rfl).alloc _).alloc _)
  have HEV := Lib.hid (show Cel V (w.heap.size + 1) 61 #[.int .i64 5, .int .i64 9, .int .i64 0, .int .i64 0, .string ⟨#[]⟩, .string ⟨#[]⟩, .slice (some ⟨b, 0, none⟩) 2 ck] from by rw [← hV]; exact (Cel.new _ _ _ (by simp)).alloc _)
  have HRV := Lib.hid (show Cel V (w.heap.size + 2) 61 #[.int .i64 0, .int .i64 0, .int .i64 0, .int .i64 0, .string ⟨#[]⟩, .string ⟨#[]⟩, .slice none 0 0] from by rw [← hV]; exact Cel.new _ _ _ (by simp))
  have HKV := Lib.hid (hk.below hbv)
  have HC0 := Lib.hid (show ∀ W, Below V.heap.size V W → Calls Tryd.prog 104 #[tbV n1 n2 A c, .agg (colC nm).toArray] W fun e w' => e = .returned (.tuple #[.agg slotC.toArray, .int .i64 0]) ∧ Below W.heap.size W w' from fun W hW => placed_col ((h.below hbv).below hW))
  have y0 := HEV.out.at_ 0
  have y6 := HEV.out.at_ 6
  clear h hk hbv hsz
  go_enter Tryd.func104, Tryd.ntmps104
  go_wp2_with (fail)
  go_at_call 129
  with_reducible refine (grow_some _).mono ?_
  rintro e1 w1 ⟨cap, rfl, hcap, hown, hb1⟩
  have HB1 := Lib.hid hb1
  have HO1 := Lib.hid hown
  have y6 := (HEV.out.below hb1).at_ 6
  clear hb1 hown
  go_wp2_with (fail)
  go_loopw [7, 31] (fun v i wr => ∃ (j : Nat) (B' : Option Addr) (c' : Nat), v = .slice B' j c' ∧ j ≤ 2 ∧ i = .int .i64 (j : Int) ∧ Hid (Below V.heap.size V wr ∧ OwnT wr V.heap.size tEx (fun _ => False) (.slice B' j c') ([slE, paE].take j))) (fun _ i _ => 3 - (intOf i).toNat)
  case atStart => exact ⟨0, _, _, rfl, Nat.zero_le _, rfl, Lib.hid ⟨HB1.out, HO1.out⟩⟩
  case round =>
    obtain ⟨j, B', c', rfl, hj, rfl, HL⟩ := hrel
    have hT := fun o => ((HTV.out.below HL.out.1).alloc o)
    by_cases h0 : j = 0
    · subst h0
      have q0 := (HKV.out.below HL.out.1).2 0 _ rfl
      have q1 := (HKV.out.below HL.out.1).2 1 _ rfl
      have q2 := (HKV.out.below HL.out.1).2 2 _ rfl
      have q3 := (HKV.out.below HL.out.1).2 3 _ rfl
      have q4 := (HKV.out.below HL.out.1).2 4 _ rfl
      have q5 := (HKV.out.below HL.out.1).2 5 _ rfl
      have q6 := (HKV.out.below HL.out.1).2 6 _ rfl
      have x0 := fun o => ((HTV.out.below HL.out.1).alloc o).at_ 0
      have x1 := fun o => ((HTV.out.below HL.out.1).alloc o).at_ 1
      have x2 := fun o => ((HTV.out.below HL.out.1).alloc o).at_ 2
      have x3 := fun o => ((HTV.out.below HL.out.1).alloc o).at_ 3
      have x4 := fun o => ((HTV.out.below HL.out.1).alloc o).at_ 4
      have x5 := fun o => ((HTV.out.below HL.out.1).alloc o).at_ 5
      have HBa := Lib.hid (show Below V.heap.size V (wr.alloc (.cells #[.int .i64 2, .int .i64 0, .int .i64 0, .int .i64 0, .string ⟨#[]⟩, .string nm, .slice none 0 0] 61)) from al HL.out.1 _)
      go_wp2_with (first | (go_at_call 104; (with_reducible refine (HC0.out _ HBa.out).mono ?_); rintro e3 w3 ⟨rfl, hb3⟩; have HB3 := Lib.hid (al (Mem.on HBa.out hb3) (.cells #[.int .i64 8, .int .i64 0, .int .i64 0, .int .i64 0, .string ⟨#[]⟩, .string ⟨#[]⟩, .slice none 0 0] 61)); have HO3 := Lib.hid (show OwnT (w3.alloc (.cells #[.int .i64 8, .int .i64 0, .int .i64 0, .int .i64 0, .string ⟨#[]⟩, .string ⟨#[]⟩, .slice none 0 0] 61)) V.heap.size tEx (fun _ => False) (.slice B' 0 c') ([slE, paE].take 0) from HL.out.2.kept (row := none) (grown_below ((al (Below.refl _ _) _).trans ((hb3.mono (by simp)).trans ((al (Below.refl _ _) _).mono (by have := hb3.size; simp at this; omega))))) (by cases hv : (Value.slice B' 0 c').ownBlock <;> simp) (fun b hb => hb.elim)); obtain ⟨g3, hg3⟩ : ∃ g, w3.heap.size + 1 = g := ⟨_, rfl⟩; have HG3 := Lib.hid (show (w3.alloc (.cells #[.int .i64 8, .int .i64 0, .int .i64 0, .int .i64 0, .string ⟨#[]⟩, .string ⟨#[]⟩, .slice none 0 0] 61)).heap.size = g3 from by simp [← hg3]); clear hb3) | (at_builtin; refine wp_tree elemT V.heap.size HG3.out (.tmp 45) (.tmp 47) rfl rfl rfl HO3.out (leaf_in _ _ 8 0) (fun b hb => hb.elim) rfl (by simp) (by simp) HB3.out.size ?_; intro v4 w4 g1 g2 _; obtain ⟨A4, c4, rfl, -, -, -⟩ := g1.form; have HO4 := Lib.hid g1; have HG4 := Lib.hid g2; clear g1 g2))
      go_roundw
      case rel =>
        refine ⟨1, A4, c4, rfl, by omega, rfl, Lib.hid ⟨?_, HO4.out⟩⟩
        exact grown_low (al HB3.out _) HG4.out (fun b hb => (HO3.out.lt b hb).1)
      case measure => simp [intOf]
    by_cases h1 : j = 1
    · subst h1
      have q0 := (HKV.out.below HL.out.1).2 7 _ rfl
      have q1 := (HKV.out.below HL.out.1).2 8 _ rfl
      have q2 := (HKV.out.below HL.out.1).2 9 _ rfl
      have q3 := (HKV.out.below HL.out.1).2 10 _ rfl
      have q4 := (HKV.out.below HL.out.1).2 11 _ rfl
      have q5 := (HKV.out.below HL.out.1).2 12 _ rfl
      have q6 := (HKV.out.below HL.out.1).2 13 _ rfl
      have x0 := fun o => ((HTV.out.below HL.out.1).alloc o).at_ 0
      have x1 := fun o => ((HTV.out.below HL.out.1).alloc o).at_ 1
      have x2 := fun o => ((HTV.out.below HL.out.1).alloc o).at_ 2
      have x3 := fun o => ((HTV.out.below HL.out.1).alloc o).at_ 3
      have x4 := fun o => ((HTV.out.below HL.out.1).alloc o).at_ 4
      have x5 := fun o => ((HTV.out.below HL.out.1).alloc o).at_ 5
      have HBa := Lib.hid (show Below V.heap.size V (wr.alloc (.cells #[.int .i64 3, .int .i64 1, .int .i64 0, .int .i64 0, .string ⟨#[]⟩, .string ⟨#[]⟩, .slice none 0 0] 61)) from al HL.out.1 _)
      go_wp2_with (first | (go_at_call 104; (with_reducible refine (placed_par).mono ?_); rintro e3 w3 ⟨rfl, hb3⟩; have HB3 := Lib.hid (al (Mem.on HBa.out hb3) (.cells #[.int .i64 3, .int .i64 1, .int .i64 0, .int .i64 0, .string ⟨#[]⟩, .string ⟨#[]⟩, .slice none 0 0] 61)); have HO3 := Lib.hid (show OwnT (w3.alloc (.cells #[.int .i64 3, .int .i64 1, .int .i64 0, .int .i64 0, .string ⟨#[]⟩, .string ⟨#[]⟩, .slice none 0 0] 61)) V.heap.size tEx (fun _ => False) (.slice B' 1 c') ([slE, paE].take 1) from HL.out.2.kept (row := none) (grown_below ((al (Below.refl _ _) _).trans ((hb3.mono (by simp)).trans ((al (Below.refl _ _) _).mono (by have := hb3.size; simp at this; omega))))) (by cases hv : (Value.slice B' 1 c').ownBlock <;> simp) (fun b hb => hb.elim)); obtain ⟨g3, hg3⟩ : ∃ g, w3.heap.size + 1 = g := ⟨_, rfl⟩; have HG3 := Lib.hid (show (w3.alloc (.cells #[.int .i64 3, .int .i64 1, .int .i64 0, .int .i64 0, .string ⟨#[]⟩, .string ⟨#[]⟩, .slice none 0 0] 61)).heap.size = g3 from by simp [← hg3]); clear hb3) | (at_builtin; refine wp_tree elemT V.heap.size HG3.out (.tmp 45) (.tmp 47) rfl rfl rfl HO3.out (leaf_in _ _ 3 1) (fun b hb => hb.elim) rfl (by simp) (by simp) HB3.out.size ?_; intro v4 w4 g1 g2 _; obtain ⟨A4, c4, rfl, -, -, -⟩ := g1.form; have HO4 := Lib.hid g1; have HG4 := Lib.hid g2; clear g1 g2))
      go_roundw
      case rel =>
        refine ⟨2, A4, c4, rfl, by omega, rfl, Lib.hid ⟨?_, HO4.out⟩⟩
        exact grown_low (al HB3.out _) HG4.out (fun b hb => (HO3.out.lt b hb).1)
      case measure => simp [intOf]
    obtain rfl : j = 2 := by omega
    have HE2 := Lib.hid (HEV.out.below HL.out.1)
    have HR2 := Lib.hid (HRV.out.below HL.out.1)
    have z6 := HE2.out.at_ 6
    have zo6 := HE2.out.open_ 6
    have HE3 := Lib.hid (show Cel (wr.setCell ⟨w.heap.size + 1, 6, none⟩ (.slice B' 2 c')) (w.heap.size + 1) 61 (([.int .i64 5, .int .i64 9, .int .i64 0, .int .i64 0, .string ⟨#[]⟩, .string ⟨#[]⟩, .slice B' 2 c'] : List Value).toArray) from HE2.out.set 6 _)
    have HR3 := Lib.hid (show Cel (wr.setCell ⟨w.heap.size + 1, 6, none⟩ (.slice B' 2 c')) (w.heap.size + 2) 61 #[.int .i64 0, .int .i64 0, .int .i64 0, .int .i64 0, .string ⟨#[]⟩, .string ⟨#[]⟩, .slice none 0 0] from HR2.out.other (by omega) _ _)
    have HS3 := Lib.hid (show But [w.heap.size + 1, w.heap.size + 2] wr (wr.setCell ⟨w.heap.size + 1, 6, none⟩ (.slice B' 2 c')) from (But.refl _ _).st (by simp) _ _)
    go_wp2_with (first | (refine load_str rfl tEx _ rfl (w.heap.size + 1) rfl [.int .i64 5, .int .i64 9, .int .i64 0, .int .i64 0, .string ⟨#[]⟩, .string ⟨#[]⟩, .slice B' 2 c'] HE3.out _ Tryd.underlying61 rfl rfl ?_) | (refine store_str rfl tEx _ _ rfl (w.heap.size + 2) rfl _ [.int .i64 5, .int .i64 9, .int .i64 0, .int .i64 0, .string ⟨#[]⟩, .string ⟨#[]⟩, .slice B' 2 c'] rfl HR3.out rfl rfl (fun v hv => List.all_eq_true.1 (show ([.int .i64 5, .int .i64 9, .int .i64 0, .int .i64 0, .string ⟨#[]⟩, .string ⟨#[]⟩, .slice B' 2 c'] : List Value).all (·.oneCell') = true from rfl) v hv) ?_; intro wF hcF haF; have HCF := Lib.hid hcF; have HAF := Lib.hid (HS3.out.trans (haF.more (G' := [w.heap.size + 1, w.heap.size + 2]) (by simp))); clear hcF haF))
    (try simp only [Exit.inBlock, Exit.then])
    refine bodyPost_ret (res_cell_tmp rfl _ _ (w.heap.size + 2) [.int .i64 5, .int .i64 9, .int .i64 0, .int .i64 0, .string ⟨#[]⟩, .string ⟨#[]⟩, .slice B' 2 c'] _ rfl HCF.out Tryd.underlying61 rfl rfl _ rfl) rfl ?_
    have hb2 := Mem.on HBV.out HL.out.1
    have hs2 := HL.out.1.size
    have hsz := HSZ.out
    refine ⟨B', c', rfl, ?_, hb2.trans (HAF.out.to_below (by omega) (by simp))⟩
    have ht := HL.out.2.tree 5 9 0 0 [] []
    refine ExIn.to (fun x hx => ?_) (fun p hp => ?_) _ _ ht
    · rcases hx with hx | hx
      · exact hx.elim
      · have h3 := HL.out.2.lt _ hx
        exact ⟨by omega, Nat.lt_of_lt_of_le h3.2 HAF.out.size⟩
    · rcases hp with hp | hp
      · exact hp.elim
      · have := HL.out.2.lt _ hp
        exact World.cell?_of_block (HAF.out.blk _ this.2 (by simp; omega))
end Go.Proofs.YtjehhgilpadeiaaDoor.Ev
