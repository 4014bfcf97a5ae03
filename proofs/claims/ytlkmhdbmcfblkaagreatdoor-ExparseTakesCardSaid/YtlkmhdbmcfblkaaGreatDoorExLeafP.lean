/- The program's parser lays a leaf on its pile. -/
import Derived.Test.YtlkmhdbmcfblkaaGreatDoorExPiles
namespace Go.Proofs.YtlkmhdbmcfblkaaGreatDoor.Ep
open Go.RowKit Go.Proofs.YtlkmhdbmcfblkaaGreatDoor.Mem Go.Proofs.YtlkmhdbmcfblkaaGreatDoor.Right Go.Proofs.YtlkmhdbmcfblkaaGreatDoor.Lx Go.Deep
set_option linter.unusedVariables false

abbrev zC : List Value := [.int .i64 0, .int .i64 0, .int .i64 0, .int .i64 0, .string ⟨#[]⟩, .string ⟨#[]⟩, .slice none 0 0]
theorem zC_in (w : World) (S : Nat → Prop) : ExIn w S exZ zC := (exIn_mk _ _ _ _ _ _ _ _ _ _).2 ⟨none, 0, rfl, Nat.le_refl _, Nat.zero_le _, fun _ => rfl, kidsIn_nil _ _ _ _⟩
theorem leaf_cells (w : World) (S : Nat → Prop) (k o vk vn : Int) (vs nm : List UInt8) : ExIn w S (.mk k o vk vn vs nm []) [.int .i64 k, .int .i64 o, .int .i64 vk, .int .i64 vn, .string (Ep.txt vs), .string (Ep.txt nm), .slice none 0 0] :=
  (exIn_mk _ _ _ _ _ _ _ _ _ _).2 ⟨none, 0, rfl, Nat.le_refl _, Nat.zero_le _, fun _ => rfl, kidsIn_nil _ _ _ _⟩
/-- What grew but for the pile's block. -/
theorem Cel.grown {w w' : World} {b : Nat} {t : TypeId} {cs : Array Value} {r : Option Nat} (h : Cel w b t cs) (hg : w.grownBy w' r) (hr : some b ≠ r) : Cel w' b t cs := (hg.block b h.lt hr).trans h
/-- What the walk wants of the row behind an append: the last place may be written. -/
theorem last_open {w : World} {B g n c : Nat} {t : TypeId} {S : Nat → Prop} {l : List Ex} (h : OwnT w (B + 1) t S (.slice (some ⟨g, 0, none⟩) (n + 1) c) l) :
    B < g ∧ ¬ g = B ∧ ¬ B = g ∧ (w.frozen? ⟨g, n * 7, none⟩ = false ∧ w.frozen? ⟨g, n * 7 + 1, none⟩ = false ∧ w.frozen? ⟨g, n * 7 + 2, none⟩ = false ∧ w.frozen? ⟨g, n * 7 + 3, none⟩ = false ∧ w.frozen? ⟨g, n * 7 + 4, none⟩ = false ∧ w.frozen? ⟨g, n * 7 + 5, none⟩ = false ∧ w.frozen? ⟨g, n * 7 + 6, none⟩ = false) ∧ ∃ u0 u1 u2 u3 u4 u5 u6, w.cell? ⟨g, n * 7, none⟩ = some u0 ∧ w.cell? ⟨g, n * 7 + 1, none⟩ = some u1 ∧ w.cell? ⟨g, n * 7 + 2, none⟩ = some u2 ∧ w.cell? ⟨g, n * 7 + 3, none⟩ = some u3 ∧ w.cell? ⟨g, n * 7 + 4, none⟩ = some u4 ∧ w.cell? ⟨g, n * 7 + 5, none⟩ = some u5 ∧ w.cell? ⟨g, n * 7 + 6, none⟩ = some u6 := by
  obtain ⟨g', e, h1, h2, h3, h4, cur, h5, h6⟩ := h.block (Nat.succ_pos n)
  injection e with e
  injection e with e _ _
  subst e
  have hs : n * 7 + 7 ≤ cur.size := by omega
  have hc : ∀ i, i < cur.size → ∃ u, w.cell? ⟨g, i, none⟩ = some u := fun i hi => ⟨cur[i], by rw [h5.at_ i, Array.getElem?_eq_getElem hi]⟩
  obtain ⟨u0, e0⟩ := hc (n * 7) (by omega)
  obtain ⟨u1, e1⟩ := hc (n * 7 + 1) (by omega)
  obtain ⟨u2, e2⟩ := hc (n * 7 + 2) (by omega)
  obtain ⟨u3, e3⟩ := hc (n * 7 + 3) (by omega)
  obtain ⟨u4, e4⟩ := hc (n * 7 + 4) (by omega)
  obtain ⟨u5, e5⟩ := hc (n * 7 + 5) (by omega)
  obtain ⟨u6, e6⟩ := hc (n * 7 + 6) (by omega)
  exact ⟨by omega, by omega, by omega, ⟨h5.open_ (n * 7), h5.open_ (n * 7 + 1), h5.open_ (n * 7 + 2), h5.open_ (n * 7 + 3), h5.open_ (n * 7 + 4), h5.open_ (n * 7 + 5), h5.open_ (n * 7 + 6)⟩, u0, u1, u2, u3, u4, u5, u6, e0, e1, e2, e3, e4, e5, e6⟩
section
variable {w w1 w2 : World} {B p n g c : Nat} {tk u v : Value} {d : Bool} {S : Nat → Prop} {l : List Ex} {x y : Ex} {v0 v1 v2 v3 v4 v5 v6 : Value}
/-- The last place is written, the pile's own cell ahead of it. -/
theorem put_then (hz : Cel w1 B tPs #[tk, .int .i64 (p : Int), .slice (some ⟨g, 0, none⟩) (n + 1) c, .bool d]) (ho : OwnT w1 (B + 1) tE S (.slice (some ⟨g, 0, none⟩) (n + 1) c) (l ++ [y])) (hn : l.length = n)
    (hS : ∀ b, S b → B < b ∧ b < w1.heap.size ∧ b ≠ g) (hx : ExIn w1 S x [v0, v1, v2, v3, v4, v5, v6]) : Ps (put7 w1 g (n * 7) v0 v1 v2 v3 v4 v5 v6) B tk p (l ++ [x]) d := by
  obtain ⟨h1, h2, h3, _⟩ := last_open ho
  refine ⟨.slice (some ⟨g, 0, none⟩) (n + 1) c, Cel.put_other hz h3, S, ho.put_last (by rw [hn]) (fun b hb => (hS b hb).2.2) hx, fun b hb => ⟨(hS b hb).1, by rw [put7_size]; exact (hS b hb).2.1, fun e => (hS b hb).2.2 (by injection e)⟩⟩
theorem grown_cell {i : Nat} {z : Value} : w1.grownBy (w1.setCell ⟨B, i, none⟩ z) (some B) := grown_set z
/-- Or behind it. -/
theorem then_put (hz : Cel w1 B tPs #[tk, .int .i64 (p : Int), u, .bool d]) (ho : OwnT w1 (B + 1) tE S (.slice (some ⟨g, 0, none⟩) (n + 1) c) (l ++ [y])) (hn : l.length = n)
    (hS : ∀ b, S b → B < b ∧ b < w1.heap.size ∧ b ≠ g) (hx : ExIn w1 S x [v0, v1, v2, v3, v4, v5, v6]) : Ps ((put7 w1 g (n * 7) v0 v1 v2 v3 v4 v5 v6).setCell ⟨B, 2, none⟩ (.slice (some ⟨g, 0, none⟩) (n + 1) c)) B tk p (l ++ [x]) d := by
  obtain ⟨h1, h2, h3, _⟩ := last_open ho
  have ho' := ho.put_last (x := x) (q := n * 7) (by rw [hn]) (fun b hb => (hS b hb).2.2) hx
  have hz' : Cel (put7 w1 g (n * 7) v0 v1 v2 v3 v4 v5 v6) B tPs #[tk, .int .i64 (p : Int), u, .bool d] := Cel.put_other hz h3
  refine ⟨.slice (some ⟨g, 0, none⟩) (n + 1) c, Cel.set hz' 2 _, S, ho'.kept (row := some B) grown_cell (.inr fun e => by injection e with e; exact h2 e) fun b hb => ⟨by rw [put7_size]; exact (hS b hb).2.1, fun e => by injection e with e; have := (hS b hb).1; omega⟩, fun b hb => ⟨(hS b hb).1, ?_, fun e => (hS b hb).2.2 (by injection e)⟩⟩
  have := (hS b hb).2.1
  simp [put7_size]
  exact this
theorem then_put' (hz : Cel w1 B tPs #[tk, .int .i64 (p : Int), u, .bool d]) (ho : OwnT w1 (B + 1) tE S (.slice (some ⟨g, 0, none⟩) (n + 1) c) (l ++ [y])) (hn : l.length = n)
    (hS : ∀ b, S b → B < b ∧ b < w1.heap.size ∧ b ≠ g) (hx : ExIn w1 S x [v0, v1, v2, v3, v4, v5, v6]) : Ps (put7 (w1.setCell ⟨B, 2, none⟩ (.slice (some ⟨g, 0, none⟩) (n + 1) c)) g (n * 7) v0 v1 v2 v3 v4 v5 v6) B tk p (l ++ [x]) d := by
  obtain ⟨h1, h2, h3, _⟩ := last_open ho
  have hS' : ∀ b, S b → b < w1.heap.size ∧ some b ≠ some B := fun b hb => ⟨(hS b hb).2.1, fun e => by injection e with e; have := (hS b hb).1; omega⟩
  refine put_then (y := y) (Cel.set hz 2 _) (ho.kept (row := some B) grown_cell (.inr fun e => by injection e with e; exact h2 e) hS') hn (fun b hb => ⟨(hS b hb).1, by have := (hS b hb).2.1; simpa using this, (hS b hb).2.2⟩) (ExIn.to (fun _ h => h) (fun q hq => World.cell?_of_block (grown_cell.block _ (hS' _ hq).1 (hS' _ hq).2)) _ _ hx)
end
set_option maxRecDepth 100000 in
set_option maxHeartbeats 2000000 in
theorem leaf_any {w : World} {B p : Nat} {tk : Value} {l : List Ex} {d : Bool} (h : Ps w B tk p l d) (hp : p ≤ 1000) (hl : l.length ≤ 1000) (k o vk vn : Int) (vs nm : List UInt8) :
    Calls Tryz.prog 201 #[pV B, exV k o vk vn (Ep.txt vs) (Ep.txt nm) none 0 0] w fun e w' => e = .returned (.tuple #[]) ∧ Ps w' B tk (p + 1) (l ++ [.mk k o vk vn vs nm []]) d ∧ Below B w w' := by
  obtain ⟨v, hz, S, hown, hS⟩ := h
  obtain ⟨A, c, rfl, hA0, hlc, hcm⟩ := hown.form
  obtain ⟨n, hn⟩ : ∃ n, l.length = n := ⟨_, rfl⟩
  rw [hn] at hz hown hlc hl
  simp only [hn] at hS
  have hB := hz.lt
  have q1 : (w.alloc (.cells #[.int .i64 k, .int .i64 o, .int .i64 vk, .int .i64 vn, .string (Ep.txt vs), .string (Ep.txt nm), .slice none 0 0] tE)).cell? ⟨B, 1, none⟩ = some (.int .i64 (p : Int)) := past (hz.at_ 1) _
  have f1 : w.frozen? ⟨B, 1, none⟩ = false := hz.open_ 1
  obtain ⟨W1, hW1⟩ : ∃ W1, (w.alloc (.cells #[.int .i64 k, .int .i64 o, .int .i64 vk, .int .i64 vn, .string (Ep.txt vs), .string (Ep.txt nm), .slice none 0 0] tE)).setCell ⟨B, 1, none⟩ (.int .i64 ((p : Int) + 1)) = W1 := ⟨_, rfl⟩
  have hO1 : Oth B w W1 := hW1 ▸ ((Oth.refl B w).alloc (Nat.le_of_lt hB) _).set _ _
  have hz1 : Cel W1 B tPs #[tk, .int .i64 ((p : Int) + 1), .slice A n c, .bool d] := hW1 ▸ Cel.set (Cel.alloc hz _) 1 _
  have hg1 : Cel W1 w.heap.size tE #[.int .i64 k, .int .i64 o, .int .i64 vk, .int .i64 vn, .string (Ep.txt vs), .string (Ep.txt nm), .slice none 0 0] := hW1 ▸ (Cel.new w tE _ rfl).other (by omega) _ _
  have hs1 : w.heap.size < W1.heap.size := hg1.lt
  have hgr : w.grownBy W1 (some B) := ⟨hO1.1.os, hO1.1.tape, hO1.1.output, hO1.1.size, fun k hk hr => hO1.2 k hk (fun e => hr (by rw [e]))⟩
  have hb0 : ∀ b, (Value.slice A n c).ownBlock = some b → B < b ∧ b < w.heap.size := fun b e => by have := hown.lt b e; omega
  have how1 : OwnT W1 (B + 1) tE S (.slice A n c) l := hown.kept hgr (.inr fun e => by have := hb0 B e; omega) fun b hb => ⟨(hS b hb).2.1, fun e => by injection e with e; have := (hS b hb).1; omega⟩
  -- one more, empty, behind it
  have hz2 := Lib.hid (show Cel (W1.drew.alloc (.cells zC.toArray tE)) B tPs #[tk, .int .i64 ((p : Int) + 1), .slice A n c, .bool d] from Cel.alloc (W := W1.drew) hz1 _)
  have hrow := Lib.hid (show (W1.drew.alloc (.cells zC.toArray tE)).heap[W1.heap.size]? = some (.cells zC.toArray tE (0, 0)) from Cel.new W1.drew tE _ rfl)
  have how2 := Lib.hid (show OwnT (W1.drew.alloc (.cells zC.toArray tE)) (B + 1) tE S (.slice A n c) l from OwnT.kept (w := W1) (row := none) how1 (grown_below (Below.alloc (w := W1.drew) (a := W1) (Below.refl _ _).drew (Nat.le_refl _) _)) (by cases h : (Value.slice A n c).ownBlock <;> simp) fun b hb => ⟨by have := (hS b hb).2.1; omega, by simp⟩)
  have hS2 := Lib.hid (show ∀ b, S b → b < (W1.drew.alloc (.cells zC.toArray tE)).heap.size ∧ some b ≠ (Value.slice A n c).ownBlock from fun b hb => ⟨by have := (hS b hb).2.1; simp; omega, (hS b hb).2.2⟩)
  have hsz2 : (W1.drew.alloc (.cells zC.toArray tE)).heap.size = W1.heap.size + 1 := by simp
  have HSZ := Lib.hid hsz2
  have HB2 := Lib.hid (show Below B w (W1.drew.alloc (.cells zC.toArray tE)) from Below.alloc (w := W1.drew) hO1.1.drew (by show B ≤ W1.heap.size; omega) _)
  have HBL := Lib.hid (show B + 1 ≤ (W1.drew.alloc (.cells zC.toArray tE)).heap.size by rw [hsz2]; omega)
  have HB0 := Lib.hid hb0
  have HN := Lib.hid hn
  have HSB := Lib.hid (show ∀ b, S b → B < b ∧ b < w.heap.size ∧ some b ≠ (Value.slice A n c).ownBlock from hS)
  have HWS := Lib.hid hs1
  go_enter Tryz.func201, Tryz.ntmps201
  go_upto_region 2 with fail
  have p0 : W1.cell? ⟨B, 2, none⟩ = some (.slice A n c) := hz1.at_ 2
  have e0 : W1.cell? ⟨w.heap.size, 0, none⟩ = some (.int .i64 k) := hg1.at_ 0
  have e1 : W1.cell? ⟨w.heap.size, 1, none⟩ = some (.int .i64 o) := hg1.at_ 1
  have e2 : W1.cell? ⟨w.heap.size, 2, none⟩ = some (.int .i64 vk) := hg1.at_ 2
  have e3 : W1.cell? ⟨w.heap.size, 3, none⟩ = some (.int .i64 vn) := hg1.at_ 3
  have e4 : W1.cell? ⟨w.heap.size, 4, none⟩ = some (.string (Ep.txt vs)) := hg1.at_ 4
  have e5 : W1.cell? ⟨w.heap.size, 5, none⟩ = some (.string (Ep.txt nm)) := hg1.at_ 5
  have e6 : W1.cell? ⟨w.heap.size, 6, none⟩ = some (.slice none 0 0) := hg1.at_ 6
  clear hn hS hown hz q1 f1 hO1 hz1 hg1 hgr hb0 how1 hsz2 hW1
  have p0' := past p0 (.cells zC.toArray tE)
  have e0' := past e0 (.cells zC.toArray tE)
  have e1' := past e1 (.cells zC.toArray tE)
  have e2' := past e2 (.cells zC.toArray tE)
  have e3' := past e3 (.cells zC.toArray tE)
  have e4' := past e4 (.cells zC.toArray tE)
  have e5' := past e5 (.cells zC.toArray tE)
  have e6' := past e6 (.cells zC.toArray tE)
  have tn : (n : Int) < (n : Int) + 1 := by omega
  go_region_law (refine step_tree elemEx how2.out (zC_in _ _) (.tmp 14) (.tmp 17) rfl rfl rfl rfl hrow.out hS2.out HN.out (by omega) (by unfold maxLen; omega) HBL.out ?_; intro g' cap w' h1 h2 h3 h4; have H1 := Lib.hid h1; have H2 := Lib.hid h2; have H3 := Lib.hid h3; obtain ⟨k1, hne, hen, ⟨y0, y1, y2, y3, y4, y5, y6⟩, u0, u1, u2, u3, u4, u5, u6, x0, x1, x2, x3, x4, x5, x6⟩ := last_open h1; have hz3 := Cel.grown hz2.out h2 (fun e => by have := (HB0.out B e.symm).1; omega); have f2 := hz3.open_ 2; have z2 := hz3.at_ 2; have HZ3 := Lib.hid hz3; have H4 := Lib.hid k1; clear h1 h2 h3 h4 hz3 k1)
  all_goals
    have hgs : g' ≠ B := hne
    have hSf : ∀ b, S b → B < b ∧ b < w'.heap.size ∧ b ≠ g' := fun b hb => by
      have h1 := HSB.out b hb
      have h2 := H2.out.size
      have h3 := HSZ.out
      have h4 := HWS.out
      refine ⟨h1.1, by omega, fun e => ?_⟩
      rcases H3.out with h5 | h5
      · exact h1.2.2 (by rw [h5, e])
      · omega
    have hbw : Below B w w' := HB2.out.grown H2.out (by have := HBL.out; omega) fun j hj => Nat.le_of_lt (HB0.out j hj).1
    have hx := leaf_cells w' S k o vk vn vs nm
    have hz := HZ3.out
    rw [show (p : Int) + 1 = ((p + 1 : Nat) : Int) by omega] at hz
    have how := H1.out
    have hnn := HN.out
    have hgB : B ≤ g' := Nat.le_of_lt H4.out
    have k1 := then_put hz how hnn hSf hx
    have k2 := then_put' hz how hnn hSf hx
    have k3 := Below.setCell (p := ⟨B, 2, none⟩) (put7_below (q := n * 7) (v0 := .int .i64 k) (v1 := .int .i64 o) (v2 := .int .i64 vk) (v3 := .int .i64 vn) (v4 := .string (Ep.txt vs)) (v5 := .string (Ep.txt nm)) (v6 := .slice none 0 0) hbw hgB) (Nat.le_refl _) (.slice (some ⟨g', 0, none⟩) (n + 1) cap)
    have k4 := put7_below (q := n * 7) (v0 := .int .i64 k) (v1 := .int .i64 o) (v2 := .int .i64 vk) (v3 := .int .i64 vn) (v4 := .string (Ep.txt vs)) (v5 := .string (Ep.txt nm)) (v6 := .slice none 0 0) (Below.setCell (p := ⟨B, 2, none⟩) hbw (Nat.le_refl _) (.slice (some ⟨g', 0, none⟩) (n + 1) cap)) hgB
    unfold put7 at k1 k2 k3 k4
    have K1 := Lib.hid (And.intro k1 k3)
    have K2 := Lib.hid (And.intro k2 k4)
    clear k1 k2 k3 k4 hz how hnn hSf hx hbw
    go_wp2
    go_end0
    first
      | (with_reducible exact ⟨rfl, K1.out⟩)
      | (with_reducible exact ⟨rfl, K2.out⟩)
end Go.Proofs.YtlkmhdbmcfblkaaGreatDoor.Ep
