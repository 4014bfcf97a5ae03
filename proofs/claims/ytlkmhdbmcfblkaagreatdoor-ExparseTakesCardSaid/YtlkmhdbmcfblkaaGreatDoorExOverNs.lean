import Derived.Test.YtlkmhdbmcfblkaaGreatDoorExOvers
import Derived.Test.YtlkmhdbmcfblkaaGreatDoorExTexts
/- The program's parser lays a tree on its pile in the place of its kids: it is low enough. -/
namespace Go.Proofs.YtlkmhdbmcfblkaaGreatDoor.Ep
open Go.RowKit Go.Proofs.YtlkmhdbmcfblkaaGreatDoor.Mem Go.Proofs.YtlkmhdbmcfblkaaGreatDoor.Right Go.Proofs.YtlkmhdbmcfblkaaGreatDoor.Lx Go.Deep
set_option linter.unusedVariables false

set_option maxRecDepth 100000 in
set_option maxHeartbeats 4000000 in
theorem over_no {w : World} {B p m kn : Nat} {tk : Value} {l ks : List Ex} {d : Bool} (h : Ps w B tk p (l ++ ks) d) (hm : l.length = m) (hk : ks.length = kn) (h0 : 0 < kn) (hk9 : kn ≤ 100) (hl : m ≤ 1000) (k o vk vn : Int) (vs nm : List UInt8)
    (hz : size (.mk k o vk vn vs nm ks) ≤ 100000) (hh : hgt (.mk k o vk vn vs nm ks) ≤ 8) :
    Calls Tryz.prog 58 #[pV B, .int .i64 (kn : Int), exV k o vk vn (Ep.txt vs) (Ep.txt nm) none 0 0] w fun e w' => e = .returned (.tuple #[]) ∧ Ps w' B tk p (l ++ [(.mk k o vk vn vs nm ks)]) d ∧ Below B w w' := by
  obtain ⟨v, hz0, S, hown, hS⟩ := h
  obtain ⟨A, c, rfl, hA0, hlc, hcm⟩ := hown.form
  obtain ⟨n, hn⟩ : ∃ n, (l ++ ks).length = n := ⟨_, rfl⟩
  have hnm : n = m + kn := by rw [← hn, List.length_append, hm, hk]
  rw [hn] at hz0 hown hlc
  simp only [hn] at hS
  have hB := hz0.lt
  obtain ⟨g, rfl, hBg, hgw, -, -, -⟩ := hown.block (by omega)
  subst hnm
  have HMID := Lib.hid (fun (w1 : World) (v : Value) hc hb => mid_of (w1 := w1) (v := v) (k := k) (o := o) (vk := vk) (vn := vn) (vs := vs) (nm := nm) hz0 hown hS hk h0 hc hb)
  have HC := Lib.hid (show ∀ W, W = w.alloc (.cells #[.int .i64 k, .int .i64 o, .int .i64 vk, .int .i64 vn, .string (Ep.txt vs), .string (Ep.txt nm), .slice none 0 0] tE) → Calls Tryz.prog 105 #[.slice (some ⟨g, m * 7, none⟩) kn (c - m)] W fun e w' => ∃ v, e = .returned v ∧ Copy S W.heap.size w' v ks ∧ Below W.heap.size W w' from fun W hW => by
    have h1 : ∀ b, S b → b < W.heap.size := fun b hb => by subst hW; have := (hS b hb).2.1; simp; omega
    have h2 : Flat W S (some ⟨g, m * 7, none⟩) ks := by
      subst hW
      exact (hown.flat (by rw [hm])).below (fun b hb => (hS b hb).2.1) (al (Below.refl _ _) _)
    have := copy_flat S ks (some ⟨g, m * 7, none⟩) (c - m) W h1 h2 (fun e => by cases e) (by omega) (by omega)
    rwa [hk] at this)
  obtain ⟨H, hH⟩ : ∃ H, hgt (.mk k o vk vn vs nm ks) = H := ⟨_, rfl⟩
  have HH := Lib.hid (show ∀ (W : World) (cs : List Value), ExAt W W.heap.size (.mk k o vk vn vs nm ks) cs → Calls Tryz.prog 106 #[.agg cs.toArray] W fun x w' => x = .returned (.int .i64 (H : Int)) ∧ Below W.heap.size W w' from fun W cs hW => hH ▸ height_any _ cs W hW hz)
  rw [hH] at hh
  have q2 : (w.alloc (.cells #[.int .i64 k, .int .i64 o, .int .i64 vk, .int .i64 vn, .string (Ep.txt vs), .string (Ep.txt nm), .slice none 0 0] tE)).cell? ⟨B, 2, none⟩ = some (.slice (some ⟨g, 0, none⟩) (m + kn) c) := past (hz0.at_ 2) _
  have e1 : ((m : Int) + (kn : Int)) - (kn : Int) = (m : Int) := by omega
  have HN := Lib.hid hm
  have hmc : m ≤ c := by omega
  clear hz0 hown hS hz hk hm hn hH hA0
  go_enter Tryz.func58, Tryz.ntmps58
  go_upto_region 6 with (first
    | (go_at_call 105; (with_reducible refine (HC.out _ rfl).mono ?_); rintro e' w1 ⟨v, rfl, hc1, hb1⟩; obtain ⟨g2, c2, rfl, x6, f6, hmid⟩ := HMID.out w1 v hc1 hb1; have HM := Lib.hid hmid; obtain ⟨W2, hW2⟩ : ∃ W2, w1.setCell ⟨w.heap.size, 6, none⟩ (.slice (some ⟨g2, 0, none⟩) kn c2) = W2 := ⟨_, rfl⟩; rw [hW2] at HM; have y0 : W2.cell? ⟨w.heap.size, 0, none⟩ = some (.int .i64 k) := HM.out.x.at_ 0; have y1 : W2.cell? ⟨w.heap.size, 1, none⟩ = some (.int .i64 o) := HM.out.x.at_ 1; have y2 : W2.cell? ⟨w.heap.size, 2, none⟩ = some (.int .i64 vk) := HM.out.x.at_ 2; have y3 : W2.cell? ⟨w.heap.size, 3, none⟩ = some (.int .i64 vn) := HM.out.x.at_ 3; have y4 : W2.cell? ⟨w.heap.size, 4, none⟩ = some (.string (Ep.txt vs)) := HM.out.x.at_ 4; have y5 : W2.cell? ⟨w.heap.size, 5, none⟩ = some (.string (Ep.txt nm)) := HM.out.x.at_ 5; have y6 : W2.cell? ⟨w.heap.size, 6, none⟩ = some (.slice (some ⟨g2, 0, none⟩) kn c2) := HM.out.x.at_ 6; clear hc1 hb1 hmid)
    | (go_at_call 106; (refine (HH.out _ _ (ExIn.more HM.out.tree fun b hb => (HM.out.far b hb).2.1)).mono ?_); rintro e' w3 ⟨rfl, hb3⟩; have HM3 := Lib.hid (HM.out.below hb3); clear hb3))
  have p0 : w3.cell? ⟨B, 2, none⟩ = some (.slice (some ⟨g, 0, none⟩) (m + kn) c) := HM3.out.z.at_ 2
  have e0 : w3.cell? ⟨w.heap.size, 0, none⟩ = some (.int .i64 k) := HM3.out.x.at_ 0
  have e1 : w3.cell? ⟨w.heap.size, 1, none⟩ = some (.int .i64 o) := HM3.out.x.at_ 1
  have e2 : w3.cell? ⟨w.heap.size, 2, none⟩ = some (.int .i64 vk) := HM3.out.x.at_ 2
  have e3 : w3.cell? ⟨w.heap.size, 3, none⟩ = some (.int .i64 vn) := HM3.out.x.at_ 3
  have e4 : w3.cell? ⟨w.heap.size, 4, none⟩ = some (.string (Ep.txt vs)) := HM3.out.x.at_ 4
  have e5 : w3.cell? ⟨w.heap.size, 5, none⟩ = some (.string (Ep.txt nm)) := HM3.out.x.at_ 5
  have e6 : w3.cell? ⟨w.heap.size, 6, none⟩ = some (.slice (some ⟨g2, 0, none⟩) kn c2) := HM3.out.x.at_ 6
  have p0' := past p0 (.cells ([.int .i64 k, .int .i64 o, .int .i64 vk, .int .i64 vn, .string (Ep.txt vs), .string (Ep.txt nm), .slice (some ⟨g2, 0, none⟩) kn c2] : List Value).toArray tE)
  have e0' := past e0 (.cells ([.int .i64 k, .int .i64 o, .int .i64 vk, .int .i64 vn, .string (Ep.txt vs), .string (Ep.txt nm), .slice (some ⟨g2, 0, none⟩) kn c2] : List Value).toArray tE)
  have e1' := past e1 (.cells ([.int .i64 k, .int .i64 o, .int .i64 vk, .int .i64 vn, .string (Ep.txt vs), .string (Ep.txt nm), .slice (some ⟨g2, 0, none⟩) kn c2] : List Value).toArray tE)
  have e2' := past e2 (.cells ([.int .i64 k, .int .i64 o, .int .i64 vk, .int .i64 vn, .string (Ep.txt vs), .string (Ep.txt nm), .slice (some ⟨g2, 0, none⟩) kn c2] : List Value).toArray tE)
  have e3' := past e3 (.cells ([.int .i64 k, .int .i64 o, .int .i64 vk, .int .i64 vn, .string (Ep.txt vs), .string (Ep.txt nm), .slice (some ⟨g2, 0, none⟩) kn c2] : List Value).toArray tE)
  have e4' := past e4 (.cells ([.int .i64 k, .int .i64 o, .int .i64 vk, .int .i64 vn, .string (Ep.txt vs), .string (Ep.txt nm), .slice (some ⟨g2, 0, none⟩) kn c2] : List Value).toArray tE)
  have e5' := past e5 (.cells ([.int .i64 k, .int .i64 o, .int .i64 vk, .int .i64 vn, .string (Ep.txt vs), .string (Ep.txt nm), .slice (some ⟨g2, 0, none⟩) kn c2] : List Value).toArray tE)
  have e6' := past e6 (.cells ([.int .i64 k, .int .i64 o, .int .i64 vk, .int .i64 vn, .string (Ep.txt vs), .string (Ep.txt nm), .slice (some ⟨g2, 0, none⟩) kn c2] : List Value).toArray tE)
  have hbl : Below w3.heap.size w3 (w3.drew.alloc (.cells ([.int .i64 k, .int .i64 o, .int .i64 vk, .int .i64 vn, .string (Ep.txt vs), .string (Ep.txt nm), .slice (some ⟨g2, 0, none⟩) kn c2] : List Value).toArray tE)) := Below.alloc (w := w3.drew) (a := w3) (Below.refl _ _).drew (Nat.le_refl _) _
  have HR := Lib.hid (HM3.out.below hbl)
  have hrow := Lib.hid (show (w3.drew.alloc (.cells ([.int .i64 k, .int .i64 o, .int .i64 vk, .int .i64 vn, .string (Ep.txt vs), .string (Ep.txt nm), .slice (some ⟨g2, 0, none⟩) kn c2] : List Value).toArray tE)).heap[w3.heap.size]? = some (.cells ([.int .i64 k, .int .i64 o, .int .i64 vk, .int .i64 vn, .string (Ep.txt vs), .string (Ep.txt nm), .slice (some ⟨g2, 0, none⟩) kn c2] : List Value).toArray tE (0, 0)) from Cel.new w3.drew tE _ rfl)
  have hfr := Lib.hid (HN.out ▸ HR.out.own.front)
  have HSZ := Lib.hid (show (w3.drew.alloc (.cells ([.int .i64 k, .int .i64 o, .int .i64 vk, .int .i64 vn, .string (Ep.txt vs), .string (Ep.txt nm), .slice (some ⟨g2, 0, none⟩) kn c2] : List Value).toArray tE)).heap.size = w3.heap.size + 1 by simp)
  clear hbl
  go_region_law (refine step_tree elemEx hfr.out HR.out.tree (.tmp 35) (.tmp 37) rfl rfl rfl rfl hrow.out (fun b hb => ⟨(HR.out.far b hb).2.1, fun e => (HR.out.far b hb).2.2.1 (Option.some.inj e)⟩) HN.out (by omega) (by unfold maxLen; omega) (by have := HR.out.z.lt; omega) ?_; intro g' cap w' h1 h2 h3 h4; have H1 := Lib.hid h1; have H2 := Lib.hid h2; have H3 := Lib.hid h3; have hz3 := Cel.grown HR.out.z h2 (fun e => by have h5 : B = g := Option.some.inj e; omega); have f2 := hz3.open_ 2; have z2 := hz3.at_ 2; have HZ3 := Lib.hid hz3; clear h1 h2 h3 h4 hz3)
  all_goals
    have hgB : B + 1 ≤ g' := (H1.out.lt g' rfl).1
    have hSf : ∀ b, (S b ∨ b = g2) → B < b ∧ b < w'.heap.size ∧ b ≠ g' := fun b hb => by
      have h1 := HR.out.far b hb
      have h2 := H2.out.size
      refine ⟨h1.1, by omega, fun e => ?_⟩
      rcases H3.out with h5 | h5
      · have h6 : g = g' := Option.some.inj h5
        exact h1.2.2.1 (by rw [h6, e])
      · omega
    have hbw : Below B w w' := HR.out.le.grown H2.out (by have := HR.out.z.lt; omega) fun j hj => by have h6 : g = j := Option.some.inj hj; omega
    have K1 := Lib.hid (And.intro (lay_pile HZ3.out H1.out hSf) (Below.setCell (p := ⟨B, 2, none⟩) hbw (Nat.le_refl _) (.slice (some ⟨g', 0, none⟩) (m + 1) cap)))
    clear hSf hbw
    go_wp2
    go_end0
    with_reducible exact ⟨rfl, K1.out⟩
end Go.Proofs.YtlkmhdbmcfblkaaGreatDoor.Ep
/- The program's parser lays a tree on its pile in the place of its kids: it is too high. -/
namespace Go.Proofs.YtlkmhdbmcfblkaaGreatDoor.Ep
open Go.RowKit Go.Proofs.YtlkmhdbmcfblkaaGreatDoor.Mem Go.Proofs.YtlkmhdbmcfblkaaGreatDoor.Right Go.Proofs.YtlkmhdbmcfblkaaGreatDoor.Lx Go.Deep
set_option linter.unusedVariables false

set_option maxRecDepth 100000 in
set_option maxHeartbeats 4000000 in
theorem over_yes {w : World} {B p m kn : Nat} {tk : Value} {l ks : List Ex} {d : Bool} (h : Ps w B tk p (l ++ ks) d) (hm : l.length = m) (hk : ks.length = kn) (h0 : 0 < kn) (hk9 : kn ≤ 100) (hl : m ≤ 1000) (k o vk vn : Int) (vs nm : List UInt8)
    (hz : size (.mk k o vk vn vs nm ks) ≤ 100000) (hh : 8 < hgt (.mk k o vk vn vs nm ks)) :
    Calls Tryz.prog 58 #[pV B, .int .i64 (kn : Int), exV k o vk vn (Ep.txt vs) (Ep.txt nm) none 0 0] w fun e w' => e = .returned (.tuple #[]) ∧ Ps w' B tk p (l ++ [exZ]) true ∧ Below B w w' := by
  obtain ⟨v, hz0, S, hown, hS⟩ := h
  obtain ⟨A, c, rfl, hA0, hlc, hcm⟩ := hown.form
  obtain ⟨n, hn⟩ : ∃ n, (l ++ ks).length = n := ⟨_, rfl⟩
  have hnm : n = m + kn := by rw [← hn, List.length_append, hm, hk]
  rw [hn] at hz0 hown hlc
  simp only [hn] at hS
  have hB := hz0.lt
  obtain ⟨g, rfl, hBg, hgw, -, -, -⟩ := hown.block (by omega)
  subst hnm
  have HMID := Lib.hid (fun (w1 : World) (v : Value) hc hb => mid_of (w1 := w1) (v := v) (k := k) (o := o) (vk := vk) (vn := vn) (vs := vs) (nm := nm) hz0 hown hS hk h0 hc hb)
  have HC := Lib.hid (show ∀ W, W = w.alloc (.cells #[.int .i64 k, .int .i64 o, .int .i64 vk, .int .i64 vn, .string (Ep.txt vs), .string (Ep.txt nm), .slice none 0 0] tE) → Calls Tryz.prog 105 #[.slice (some ⟨g, m * 7, none⟩) kn (c - m)] W fun e w' => ∃ v, e = .returned v ∧ Copy S W.heap.size w' v ks ∧ Below W.heap.size W w' from fun W hW => by
    have h1 : ∀ b, S b → b < W.heap.size := fun b hb => by subst hW; have := (hS b hb).2.1; simp; omega
    have h2 : Flat W S (some ⟨g, m * 7, none⟩) ks := by
      subst hW
      exact (hown.flat (by rw [hm])).below (fun b hb => (hS b hb).2.1) (al (Below.refl _ _) _)
    have := copy_flat S ks (some ⟨g, m * 7, none⟩) (c - m) W h1 h2 (fun e => by cases e) (by omega) (by omega)
    rwa [hk] at this)
  obtain ⟨H, hH⟩ : ∃ H, hgt (.mk k o vk vn vs nm ks) = H := ⟨_, rfl⟩
  have HH := Lib.hid (show ∀ (W : World) (cs : List Value), ExAt W W.heap.size (.mk k o vk vn vs nm ks) cs → Calls Tryz.prog 106 #[.agg cs.toArray] W fun x w' => x = .returned (.int .i64 (H : Int)) ∧ Below W.heap.size W w' from fun W cs hW => hH ▸ height_any _ cs W hW hz)
  rw [hH] at hh
  have q2 : (w.alloc (.cells #[.int .i64 k, .int .i64 o, .int .i64 vk, .int .i64 vn, .string (Ep.txt vs), .string (Ep.txt nm), .slice none 0 0] tE)).cell? ⟨B, 2, none⟩ = some (.slice (some ⟨g, 0, none⟩) (m + kn) c) := past (hz0.at_ 2) _
  have e1 : ((m : Int) + (kn : Int)) - (kn : Int) = (m : Int) := by omega
  have HN := Lib.hid hm
  have hmc : m ≤ c := by omega
  clear hz0 hown hS hz hk hm hn hH hA0
  go_enter Tryz.func58, Tryz.ntmps58
  go_upto_region 6 with (first
    | (go_at_call 105; (with_reducible refine (HC.out _ rfl).mono ?_); rintro e' w1 ⟨v, rfl, hc1, hb1⟩; obtain ⟨g2, c2, rfl, x6, f6, hmid⟩ := HMID.out w1 v hc1 hb1; have HM := Lib.hid hmid; obtain ⟨W2, hW2⟩ : ∃ W2, w1.setCell ⟨w.heap.size, 6, none⟩ (.slice (some ⟨g2, 0, none⟩) kn c2) = W2 := ⟨_, rfl⟩; rw [hW2] at HM; have y0 : W2.cell? ⟨w.heap.size, 0, none⟩ = some (.int .i64 k) := HM.out.x.at_ 0; have y1 : W2.cell? ⟨w.heap.size, 1, none⟩ = some (.int .i64 o) := HM.out.x.at_ 1; have y2 : W2.cell? ⟨w.heap.size, 2, none⟩ = some (.int .i64 vk) := HM.out.x.at_ 2; have y3 : W2.cell? ⟨w.heap.size, 3, none⟩ = some (.int .i64 vn) := HM.out.x.at_ 3; have y4 : W2.cell? ⟨w.heap.size, 4, none⟩ = some (.string (Ep.txt vs)) := HM.out.x.at_ 4; have y5 : W2.cell? ⟨w.heap.size, 5, none⟩ = some (.string (Ep.txt nm)) := HM.out.x.at_ 5; have y6 : W2.cell? ⟨w.heap.size, 6, none⟩ = some (.slice (some ⟨g2, 0, none⟩) kn c2) := HM.out.x.at_ 6; clear hc1 hb1 hmid)
    | (go_at_call 106; (refine (HH.out _ _ (ExIn.more HM.out.tree fun b hb => (HM.out.far b hb).2.1)).mono ?_); rintro e' w3 ⟨rfl, hb3⟩; have HM3 := Lib.hid (HM.out.below hb3); have n3 : w3.cell? ⟨B, 3, none⟩ = some (.bool d) := HM3.out.z.at_ 3; have g3 := HM3.out.z.open_ 3; have o3 := Lib.hid HM3.out.deep; obtain ⟨W4, hW4⟩ : ∃ W4, w3.setCell ⟨B, 3, none⟩ (.bool true) = W4 := ⟨_, rfl⟩; rw [hW4] at o3; have o4 := o3.out.zero rfl; unfold put7 at o4; simp only [Nat.zero_add] at o4; obtain ⟨W5, hW5⟩ : ∃ W5, (((((((W4.setCell ⟨w.heap.size, 0, none⟩ (Value.int .i64 0)).setCell ⟨w.heap.size, 1, none⟩ (Value.int .i64 0)).setCell ⟨w.heap.size, 2, none⟩ (Value.int .i64 0)).setCell ⟨w.heap.size, 3, none⟩ (Value.int .i64 0)).setCell ⟨w.heap.size, 4, none⟩ (.string ⟨#[]⟩)).setCell ⟨w.heap.size, 5, none⟩ (.string ⟨#[]⟩)).setCell ⟨w.heap.size, 6, none⟩ (.slice none 0 0)) = W5 := ⟨_, rfl⟩; rw [hW5] at o4; have HM5 := Lib.hid o4; have s0 : W4.cell? ⟨w.heap.size, 0, none⟩ = some (.int .i64 k) := o3.out.x.at_ 0; have t0 := o3.out.x.open_ 0; have s1 : W4.cell? ⟨w.heap.size, 1, none⟩ = some (.int .i64 o) := o3.out.x.at_ 1; have t1 := o3.out.x.open_ 1; have s2 : W4.cell? ⟨w.heap.size, 2, none⟩ = some (.int .i64 vk) := o3.out.x.at_ 2; have t2 := o3.out.x.open_ 2; have s3 : W4.cell? ⟨w.heap.size, 3, none⟩ = some (.int .i64 vn) := o3.out.x.at_ 3; have t3 := o3.out.x.open_ 3; have s4 : W4.cell? ⟨w.heap.size, 4, none⟩ = some (.string (Ep.txt vs)) := o3.out.x.at_ 4; have t4 := o3.out.x.open_ 4; have s5 : W4.cell? ⟨w.heap.size, 5, none⟩ = some (.string (Ep.txt nm)) := o3.out.x.at_ 5; have t5 := o3.out.x.open_ 5; have s6 : W4.cell? ⟨w.heap.size, 6, none⟩ = some (.slice (some ⟨g2, 0, none⟩) kn c2) := o3.out.x.at_ 6; have t6 := o3.out.x.open_ 6; clear o4; clear hb3))
  have p0 : W5.cell? ⟨B, 2, none⟩ = some (.slice (some ⟨g, 0, none⟩) (m + kn) c) := HM5.out.z.at_ 2
  have e0 : W5.cell? ⟨w.heap.size, 0, none⟩ = some (Value.int .i64 0) := HM5.out.x.at_ 0
  have e1 : W5.cell? ⟨w.heap.size, 1, none⟩ = some (Value.int .i64 0) := HM5.out.x.at_ 1
  have e2 : W5.cell? ⟨w.heap.size, 2, none⟩ = some (Value.int .i64 0) := HM5.out.x.at_ 2
  have e3 : W5.cell? ⟨w.heap.size, 3, none⟩ = some (Value.int .i64 0) := HM5.out.x.at_ 3
  have e4 : W5.cell? ⟨w.heap.size, 4, none⟩ = some (.string ⟨#[]⟩) := HM5.out.x.at_ 4
  have e5 : W5.cell? ⟨w.heap.size, 5, none⟩ = some (.string ⟨#[]⟩) := HM5.out.x.at_ 5
  have e6 : W5.cell? ⟨w.heap.size, 6, none⟩ = some (.slice none 0 0) := HM5.out.x.at_ 6
  have p0' := past p0 (.cells (zC : List Value).toArray tE)
  have e0' := past e0 (.cells (zC : List Value).toArray tE)
  have e1' := past e1 (.cells (zC : List Value).toArray tE)
  have e2' := past e2 (.cells (zC : List Value).toArray tE)
  have e3' := past e3 (.cells (zC : List Value).toArray tE)
  have e4' := past e4 (.cells (zC : List Value).toArray tE)
  have e5' := past e5 (.cells (zC : List Value).toArray tE)
  have e6' := past e6 (.cells (zC : List Value).toArray tE)
  have hbl : Below W5.heap.size W5 (W5.drew.alloc (.cells (zC : List Value).toArray tE)) := Below.alloc (w := W5.drew) (a := W5) (Below.refl _ _).drew (Nat.le_refl _) _
  have HR := Lib.hid (HM5.out.below hbl)
  have hrow := Lib.hid (show (W5.drew.alloc (.cells (zC : List Value).toArray tE)).heap[W5.heap.size]? = some (.cells (zC : List Value).toArray tE (0, 0)) from Cel.new W5.drew tE _ rfl)
  have hfr := Lib.hid (HN.out ▸ HR.out.own.front)
  have HSZ := Lib.hid (show (W5.drew.alloc (.cells (zC : List Value).toArray tE)).heap.size = W5.heap.size + 1 by simp)
  clear hbl
  go_region_law (refine step_tree elemEx hfr.out HR.out.tree (.tmp 35) (.tmp 37) rfl rfl rfl rfl hrow.out (fun b hb => ⟨(HR.out.far b hb).2.1, fun e => (HR.out.far b hb).2.2.1 (Option.some.inj e)⟩) HN.out (by omega) (by unfold maxLen; omega) (by have := HR.out.z.lt; omega) ?_; intro g' cap w' h1 h2 h3 h4; have H1 := Lib.hid h1; have H2 := Lib.hid h2; have H3 := Lib.hid h3; have hz3 := Cel.grown HR.out.z h2 (fun e => by have h5 : B = g := Option.some.inj e; omega); have f2 := hz3.open_ 2; have z2 := hz3.at_ 2; have HZ3 := Lib.hid hz3; clear h1 h2 h3 h4 hz3)
  all_goals
    have hgB : B + 1 ≤ g' := (H1.out.lt g' rfl).1
    have hSf : ∀ b, (S b ∨ b = g2) → B < b ∧ b < w'.heap.size ∧ b ≠ g' := fun b hb => by
      have h1 := HR.out.far b hb
      have h2 := H2.out.size
      refine ⟨h1.1, by omega, fun e => ?_⟩
      rcases H3.out with h5 | h5
      · have h6 : g = g' := Option.some.inj h5
        exact h1.2.2.1 (by rw [h6, e])
      · omega
    have hbw : Below B w w' := HR.out.le.grown H2.out (by have := HR.out.z.lt; omega) fun j hj => by have h6 : g = j := Option.some.inj hj; omega
    have K1 := Lib.hid (And.intro (lay_pile HZ3.out H1.out hSf) (Below.setCell (p := ⟨B, 2, none⟩) hbw (Nat.le_refl _) (.slice (some ⟨g', 0, none⟩) (m + 1) cap)))
    clear hSf hbw
    go_wp2
    go_end0
    with_reducible exact ⟨rfl, K1.out⟩
end Go.Proofs.YtlkmhdbmcfblkaaGreatDoor.Ep
/- The grammar always tells something: an expression behind which it goes on, or an error at a place; so some bound is enough. -/
namespace Go.Proofs.YtlkmhdbmcfblkaaGreatDoor.Ep
open Go.Proofs.YtlkmhdbmcfblkaaGreatDoor.Lx
set_option linter.unusedVariables false

/-- It tells something: an error that is one, or what is read, and from where on it goes on (not ahead of lo). -/
def Ends {α : Type} (f : Nat → Res α) (lo : Nat) : Prop := ∃ R, Ev f R ∧ (∀ x q, R = .ok x q → lo ≤ q) ∧ ∀ e q, R = .err e q → e ≠ 99
section
variable {α β : Type} {f : Nat → Res α} {g : Nat → α → Nat → Res β} {lo lo' : Nat}
theorem Ev.bind_err {e : Int} {p : Nat} (h : Ev f (.err e p)) : Ev (fun n => (f n).bind (g n)) (.err e p) := by
  obtain ⟨F, h⟩ := h
  refine ⟨F, fun n hn => ?_⟩
  show (f n).bind (g n) = .err e p
  rw [h n hn]
  rfl
theorem Ends.bind (h : Ends f lo) (k : ∀ x q, lo ≤ q → Ends (fun n => g n x q) lo') : Ends (fun n => (f n).bind (g n)) lo' := by
  obtain ⟨R, h1, h2, h3⟩ := h
  cases R with
  | ok x q =>
    obtain ⟨R', k1, k2, k3⟩ := k x q (h2 x q rfl)
    exact ⟨R', h1.bind k1, k2, k3⟩
  | err e q => exact ⟨.err e q, h1.bind_err, (fun x q e => by cases e), fun e' q' he => h3 e' q' (by cases he; rfl)⟩
theorem Ends.step (h : Ends (fun n => f (n + 1)) lo) : Ends f lo := by
  obtain ⟨R, h1, h2⟩ := h
  exact ⟨R, h1.step, h2⟩
theorem Ends.congr {f' : Nat → Res α} (h : Ends f lo) (e : ∀ n, f' n = f n) : Ends f' lo := by
  obtain ⟨R, h1, h2⟩ := h
  exact ⟨R, h1.congr e, h2⟩
theorem Ends.less (h : Ends f lo) (hl : lo' ≤ lo) : Ends f lo' := by
  obtain ⟨R, h1, h2, h3⟩ := h
  exact ⟨R, h1, fun x q e => Nat.le_trans hl (h2 x q e), h3⟩
theorem Ends.ok {x : α} {q : Nat} (h : lo ≤ q) : Ends (fun _ => Res.ok x q) lo := ⟨_, Ev.pure _, fun x' q' e => by cases e; exact h, fun e q' he => by cases he⟩
theorem Ends.err {e : Int} {q : Nat} (h : e ≠ 99) : Ends (fun _ => (Res.err e q : Res α)) lo := ⟨_, Ev.pure _, (fun x q e => by cases e), fun e' q' he => by cases he; exact h⟩
end
theorem rd_not (l : List UInt8) : (Val.rd l).e ≠ 99 := by
  unfold Val.rd
  split
  · decide
  split
  · decide
  split
  · decide
  split
  · unfold Val.rdT
    split
    · decide
    split
    · split
      · decide
      · show (0 : Int) ≠ 99
        decide
    · decide
  · unfold Val.rdN
    split
    · show (0 : Int) ≠ 99
      decide
    · show Num.readE l ≠ 99
      unfold Num.readE
      split
      · unfold Num.re
        split <;> decide
      · decide
section
variable {L : List Tt}
theorem tk_out {p : Nat} (h : ¬ p < L.length) : tk L p = (7, []) := by
  unfold tk
  rw [List.getElem?_eq_none (by omega)]
  rfl
theorem isT_in {p : Nat} {w : List UInt8} (h : isT L p w = true) : p < L.length := by
  refine Classical.byContradiction fun g => ?_
  unfold isT at h
  rw [tk_out g] at h
  cases h
theorem isVal_in {p : Nat} (h : isVal (tk L p) = true) : p < L.length := by
  refine Classical.byContradiction fun g => ?_
  rw [tk_out g] at h
  revert h
  decide
theorem kind_in {p k : Nat} (h : (tk L p).1 = k) (hk : k ≠ 7) : p < L.length := by
  refine Classical.byContradiction fun g => ?_
  rw [tk_out g] at h
  exact hk h.symm
theorem sg_in {r p : Nat} (h : sgAt L r p ≠ 0) : p < L.length := by
  refine Classical.byContradiction fun g => h ?_
  unfold sgAt
  rw [tk_out g]
  split
  · decide
  · rfl
/-- All that begins at a place behind p tells something. -/
def After (L : List Tt) (p : Nat) : Prop := ∀ q, p < q → p < L.length → ∀ r, 1 ≤ r → r ≤ 8 → Ends (fun n => rankP L n r q) (q + 1)
theorem loop_ends {p : Nat} (H : After L p) {r : Nat} (hr : 1 ≤ r) (hr8 : r + 1 ≤ 8) : ∀ (j q : Nat) (x : Ex), L.length - q ≤ j → p < q → Ends (fun n => loopP L n r x q) q := by
  intro j
  induction j with
  | zero =>
    intro q x hj hq
    refine Ends.step ((Ends.ok (x := x) (Nat.le_refl q)).congr fun n => ?_)
    rw [loopP, if_pos (Classical.byContradiction fun g => absurd (sg_in g) (by omega))]
  | succ j ih =>
    intro q x hj hq
    by_cases h : sgAt L r q = 0
    · exact Ends.step ((Ends.ok (x := x) (Nat.le_refl q)).congr fun n => by rw [loopP, if_pos h])
    · have hl := sg_in h
      refine Ends.step (((H (q + 1) (by omega) (by omega) (r + 1) (by omega) hr8).bind (lo' := q) fun y s hs => ?_).congr fun n => by rw [loopP, if_neg h])
      exact (ih s (bin (sgAt L r q) x y) (by omega) (by omega)).less (by omega)
theorem more_ends {p : Nat} (H : After L p) {most : Nat} : ∀ (j q : Nat) (l : List Ex), L.length - q ≤ j → p < q → Ends (fun n => moreP L n most l q) (q + 1) := by
  intro j
  induction j with
  | zero =>
    intro q l hj hq
    have h1 : ∀ w, isT L q w = false := fun w => by
      cases h : isT L q w
      · rfl
      · exact absurd (isT_in h) (by omega)
    exact Ends.step ((Ends.err (e := 16) (q := q) (by decide)).congr fun n => by rw [moreP, if_neg (by simp [h1]), if_neg (by simp [h1])])
  | succ j ih =>
    intro q l hj hq
    by_cases h : l.length < most ∧ isT L q [44] = true
    · have hl := isT_in h.2
      refine Ends.step (((H (q + 1) (by omega) (by omega) 1 (by decide) (by decide)).bind (lo' := q + 1) fun y s hs => ?_).congr fun n => by rw [moreP, if_pos h])
      exact (ih s (l ++ [y]) (by omega) (by omega)).less (by omega)
    · by_cases h2 : isT L q [41] = true
      · exact Ends.step ((Ends.ok (x := l) (Nat.le_refl (q + 1))).congr fun n => by rw [moreP, if_neg h, if_pos h2])
      · exact Ends.step ((Ends.err (e := 16) (q := q) (by decide)).congr fun n => by rw [moreP, if_neg h, if_neg h2])
theorem list_ends {p : Nat} (H : After L p) {most q : Nat} (hq : p < q) : Ends (fun n => listP L n most q) (q + 1) := by
  by_cases h : isT L q [40] = true
  · have hl := isT_in h
    refine Ends.step (((H (q + 1) (by omega) (by omega) 1 (by decide) (by decide)).bind (lo' := q + 1) fun y s hs => ?_).congr fun n => by rw [listP, if_pos h])
    exact (more_ends H (L.length - s) s [y] (Nat.le_refl _) (by omega)).less (by omega)
  · exact Ends.step ((Ends.err (e := 16) (q := q) (by decide)).congr fun n => by rw [listP, if_neg h])
theorem one_ends {p : Nat} (H : After L p) : Ends (fun n => oneP L n p) (p + 1) := by
  refine Ends.step ?_
  by_cases h1 : isVal (tk L p) = true
  · by_cases h2 : (Val.rd (tk L p).2).e = 0
    · exact (Ends.ok (x := lit (Val.rd (tk L p).2).k (Val.rd (tk L p).2).n (Val.rd (tk L p).2).s) (Nat.le_refl (p + 1))).congr fun n => by rw [oneP, if_pos h1, if_pos h2]
    · exact (Ends.err (e := (Val.rd (tk L p).2).e) (q := p) (rd_not _)).congr fun n => by rw [oneP, if_pos h1, if_neg h2]
  by_cases h2 : (tk L p).1 = 1
  · exact (Ends.ok (x := col (tk L p).2) (Nat.le_refl (p + 1))).congr fun n => by rw [oneP, if_neg h1, if_pos h2]
  by_cases h3 : (tk L p).1 = 5
  · exact (Ends.ok (x := par ((((tk L p).2.getD 1 0).toNat : Int) - 48)) (Nat.le_refl (p + 1))).congr fun n => by rw [oneP, if_neg h1, if_neg h2, if_pos h3]
  by_cases h4 : isT L p kCOAL = true
  · exact ((list_ends H (most := 4) (q := p + 1) (by omega)).bind (g := fun _ l q => .ok (call nCoal l) q) (lo' := p + 1) fun l q hq => Ends.ok (by omega)).congr fun n => by rw [oneP, if_neg h1, if_neg h2, if_neg h3, if_pos h4]
  by_cases h5 : isT L p kLEN = true
  · exact ((list_ends H (most := 1) (q := p + 1) (by omega)).bind (g := fun _ l q => .ok (call nLen l) q) (lo' := p + 1) fun l q hq => Ends.ok (by omega)).congr fun n => by rw [oneP, if_neg h1, if_neg h2, if_neg h3, if_neg h4, if_pos h5]
  by_cases h6 : isT L p kABS = true
  · exact ((list_ends H (most := 1) (q := p + 1) (by omega)).bind (g := fun _ l q => .ok (call nAbs l) q) (lo' := p + 1) fun l q hq => Ends.ok (by omega)).congr fun n => by rw [oneP, if_neg h1, if_neg h2, if_neg h3, if_neg h4, if_neg h5, if_pos h6]
  by_cases h7 : isT L p [40] = true
  · have hl := isT_in h7
    refine ((H (p + 1) (by omega) hl 1 (by decide) (by decide)).bind (g := fun _ x q => if isT L q [41] = true then .ok x (q + 1) else .err 16 q) (lo' := p + 1) fun x q hq => ?_).congr fun n => by rw [oneP, if_neg h1, if_neg h2, if_neg h3, if_neg h4, if_neg h5, if_neg h6, if_pos h7]
    by_cases h8 : isT L q [41] = true
    · exact (Ends.ok (x := x) (q := q + 1) (by omega)).congr fun n => by rw [if_pos h8]
    · exact (Ends.err (e := 16) (q := q) (by decide)).congr fun n => by rw [if_neg h8]
  · exact (Ends.err (e := 16) (q := p) (by decide)).congr fun n => by rw [oneP, if_neg h1, if_neg h2, if_neg h3, if_neg h4, if_neg h5, if_neg h6, if_neg h7]
theorem left_ends {p r : Nat} (H : After L p) (hr : r = 1 ∨ r = 2 ∨ r = 5 ∨ r = 6) (h : Ends (fun n => rankP L n (r + 1) p) (p + 1)) : Ends (fun n => rankP L n r p) (p + 1) := by
  refine Ends.step ((h.bind (g := fun n x q => loopP L n r x q) (lo' := p + 1) fun x q hq => ?_).congr fun n => by rcases hr with rfl | rfl | rfl | rfl <;> (rw [rankP]; rfl))
  exact (loop_ends H (by omega) (by omega) (L.length - q) q x (Nat.le_refl _) (by omega)).less (by omega)
theorem is_ends {p : Nat} (H : After L p) (h : Ends (fun n => rankP L n 5 p) (p + 1)) : Ends (fun n => rankP L n 4 p) (p + 1) := by
  have h3 : Ends (fun n => isP L n p) (p + 1) := by
    refine Ends.step ((h.bind (g := fun n x q => isG L n x q) (lo' := p + 1) fun x q hq => ?_).congr fun n => by rw [isP]; rfl)
    unfold isG
    by_cases h1 : sgAt L 4 q ≠ 0
    · have hl := sg_in h1
      exact ((H (q + 1) (by omega) (by omega) 5 (by decide) (by decide)).bind (g := fun _ y s => .ok (bin (sgAt L 4 q) x y) s) (lo' := p + 1) fun y s hs => Ends.ok (by omega)).congr fun n => by rw [if_pos h1]
    by_cases h2 : isT L q kIS = true
    · by_cases h3 : isT L (q + 1) kNOT = true
      · by_cases h4 : isT L (q + 2) Val.wNull = true
        · exact (Ends.ok (x := un 4 x) (q := q + 3) (by omega)).congr fun n => by rw [if_neg h1, if_pos h2, if_pos h3, if_pos h4]
        · exact (Ends.err (e := 16) (q := q + 2) (by decide)).congr fun n => by rw [if_neg h1, if_pos h2, if_pos h3, if_neg h4]
      · by_cases h4 : isT L (q + 1) Val.wNull = true
        · exact (Ends.ok (x := un 3 x) (q := q + 2) (by omega)).congr fun n => by rw [if_neg h1, if_pos h2, if_neg h3, if_pos h4]
        · exact (Ends.err (e := 16) (q := q + 1) (by decide)).congr fun n => by rw [if_neg h1, if_pos h2, if_neg h3, if_neg h4]
    by_cases h3 : isT L q kIN = true
    · exact ((list_ends H (most := 8) (q := q + 1) (by omega)).bind (g := fun _ l s => .ok (inn (x :: l)) s) (lo' := p + 1) fun l s hs => Ends.ok (by omega)).congr fun n => by rw [if_neg h1, if_neg h2, if_pos h3]
    · exact (Ends.ok (x := x) (q := q) (by omega)).congr fun n => by rw [if_neg h1, if_neg h2, if_neg h3]
  exact Ends.step (h3.congr fun n => by rw [rankP, if_neg (by decide), if_pos rfl])
theorem all_ends {p : Nat} (H : After L p) : ∀ r, 1 ≤ r → r ≤ 8 → Ends (fun n => rankP L n r p) (p + 1) := by
  have r8 : Ends (fun n => rankP L n 8 p) (p + 1) := Ends.step ((one_ends H).congr fun n => by rw [rankP, if_neg (by decide), if_neg (by decide), if_neg (by decide), if_pos rfl])
  have r7 : Ends (fun n => rankP L n 7 p) (p + 1) := by
    by_cases h : isT L p [45] = true
    · have hl := isT_in h
      exact Ends.step (((H (p + 1) (by omega) hl 7 (by decide) (by decide)).bind (g := fun _ x q => .ok (un 1 x) q) (lo' := p + 1) fun x q hq => Ends.ok (by omega)).congr fun n => by rw [rankP, if_neg (by decide), if_neg (by decide), if_pos rfl, if_pos h])
    · exact Ends.step (r8.congr fun n => by rw [rankP, if_neg (by decide), if_neg (by decide), if_pos rfl, if_neg h])
  have r6 := left_ends H (r := 6) (by decide) r7
  have r5 := left_ends H (r := 5) (by decide) r6
  have r4 := is_ends H r5
  have r3 : Ends (fun n => rankP L n 3 p) (p + 1) := by
    by_cases h : isT L p kNOT = true
    · have hl := isT_in h
      exact Ends.step (((H (p + 1) (by omega) hl 3 (by decide) (by decide)).bind (g := fun _ x q => .ok (un 2 x) q) (lo' := p + 1) fun x q hq => Ends.ok (by omega)).congr fun n => by rw [rankP, if_pos rfl, if_pos h])
    · exact Ends.step (r4.congr fun n => by rw [rankP, if_pos rfl, if_neg h])
  have r2 := left_ends H (r := 2) (by decide) r3
  have r1 := left_ends H (r := 1) (by decide) r2
  intro r h1 h8
  match r, h1, h8 with
  | 1, _, _ => exact r1
  | 2, _, _ => exact r2
  | 3, _, _ => exact r3
  | 4, _, _ => exact r4
  | 5, _, _ => exact r5
  | 6, _, _ => exact r6
  | 7, _, _ => exact r7
  | 8, _, _ => exact r8
/-- From any place. -/
theorem total : ∀ (j p : Nat), L.length - p ≤ j → ∀ r, 1 ≤ r → r ≤ 8 → Ends (fun n => rankP L n r p) (p + 1) := by
  intro j
  induction j with
  | zero => intro p hj; exact all_ends fun q _ hl => by omega
  | succ j ih => intro p hj; exact all_ends fun q hq hl => ih q (by omega)
end
end Go.Proofs.YtlkmhdbmcfblkaaGreatDoor.Ep
