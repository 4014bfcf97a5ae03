/- The names of a table's columns; of its constraints and indexes: the program's calls. -/
import Derived.Test.YtcblddpapehdeaaDoorM15
namespace Go.Proofs.YtcblddpapehdeaaDoor.Tk
open Go.RowKit Go.Proofs.YtcblddpapehdeaaDoor.Mem Go.Proofs.YtcblddpapehdeaaDoor.Ep Go.Proofs.YtcblddpapehdeaaDoor.Sm Go.ChangeShapes Go.WideShapes
set_option linter.unusedVariables false
/-- A list of texts of the call's own. -/
def TxtD (L : List Bs) (w : World) (e : Ending) (w' : World) : Prop := ∃ A c, e = .returned (.slice A L.length c) ∧ TS w (.slice A L.length c) L w'
theorem own_less {w : World} {b b' : Nat} {e : TypeId} {k : Nat} {v : Value} {n : Nat} {us : List Value} (h : w.ownsRow b e k v n us) (hb : b' ≤ b) : w.ownsRow b' e k v n us :=
  ⟨h.1, h.2.imp id fun ⟨g, cap, cur, h1, h2, h3⟩ => ⟨g, cap, cur, h1, Nat.le_trans hb h2, h3⟩⟩
theorem TxtD.of {V w w' : World} {L : List Bs} {v : Value} (h : TS V v L w') (hb : Below w.heap.size w V) : TxtD L w (.returned v) w' := by
  obtain ⟨A, c, rfl, -⟩ := h.form
  exact ⟨A, c, rfl, own_less h.own hb.size, hb.trans (h.low.mono hb.size)⟩
set_option maxRecDepth 20000 in
set_option maxHeartbeats 4000000 in
theorem columns_any (x : Tb) (f : Fb) (w : World) (hx : FbIn w w.heap.size f x) (h3 : f.n3 ≤ 10000) : Calls Tryd.prog 79 #[.agg (f.cells x).toArray] w (TxtD (x.cols.map (·.nm)) w) := by
  obtain ⟨V, hV⟩ : ∃ W1, w.alloc (.cells (f.cells x).toArray tTb) = W1 := ⟨_, rfl⟩
  have hb : Below w.heap.size w V := by rw [← hV]; exact al (Below.refl _ _) _
  have HX := Lib.hid (show Tbx V w.heap.size f x from by rw [← hV]; exact tbx_new hx)
  have HB := Lib.hid hb
  have HN3 := Lib.hid hx.n3
  have HN4 := Lib.hid hx.n4
  have HN5 := Lib.hid hx.n5
  have hv : f.cells x = [.string (txt x.nm), .string (txt x.own), .int .i64 x.ver, .slice f.A3 f.n3 f.a3, .slice f.A4 f.n4 f.a4, .slice f.A5 f.n5 f.a5] := rfl
  rw [hv] at hV ⊢
  clear hx hb hv
  have y3 : V.cell? ⟨w.heap.size, 3, none⟩ = some (.slice f.A3 f.n3 f.a3) := HX.out.at_ (Below.refl _ _) 3
  go_enter Tryd.func79, Tryd.ntmps79
  go_wp2
  clear y3 hV
  go_loopw [9, 3] (fun i u wr => ∃ (j : Nat) (v : Value), j ≤ f.n3 ∧ i = .int .i64 (j : Int) ∧ v = u ∧ Hid (TS V v ((x.cols.take j).map (·.nm)) wr)) (fun i _ _ => f.n3 + 1 - (intOf i).toNat)
  case atStart => exact ⟨0, _, Nat.zero_le _, rfl, rfl, Lib.hid (by simpa using ts_none (Below.refl _ _))⟩
  case round =>
    obtain ⟨j, v, hj, rfl, rfl, HE1⟩ := hrel
    have hmx : f.n3 ≤ 2 ^ 63 - 1 := by omega
    have hlo := HE1.out.low
    by_cases hlt : j < f.n3
    · --<
      obtain ⟨c, hc⟩ := some_at HN3.out.symm hlt
      have tl : decide ((j : Int) < (f.n3 : Int)) = true := decide_eq_true (by omega)
      have tl2 : decide (j < f.n3) = true := decide_eq_true hlt
      obtain ⟨b1, o1, hA, hb1, g0, g1, g2⟩ := co_at HX.out.all.cols.2.2.2 hc
      rw [hA]
      have p0 : wr.cell? ⟨b1, o1 + j * 3, none⟩ = some (.string (txt c.nm)) := (hlo.cell (p := ⟨b1, o1 + j * 3, none⟩) hb1).trans (g0)
      have p1 : wr.cell? ⟨b1, o1 + j * 3 + 1, none⟩ = some (.int .i64 c.ty) := (hlo.cell (p := ⟨b1, o1 + j * 3 + 1, none⟩) hb1).trans (g1)
      have p2 : wr.cell? ⟨b1, o1 + j * 3 + 2, none⟩ = some (.bool c.nn) := (hlo.cell (p := ⟨b1, o1 + j * 3 + 2, none⟩) hb1).trans (g2)
      obtain ⟨W1, hW1⟩ : ∃ W, wr.alloc (.cells #[.string (txt c.nm), .int .i64 c.ty, .bool c.nn] 49) = W := ⟨_, rfl⟩
      have hbw : Below wr.heap.size wr W1 := by rw [← hW1]; exact al (Below.refl _ _) _
      have hcel : Cel W1 wr.heap.size 49 #[.string (txt c.nm), .int .i64 c.ty, .bool c.nn] := by rw [← hW1]; exact Cel.new _ _ _ rfl
      have q0 := hcel.at_ 0
      obtain ⟨W2, hW2⟩ : ∃ W, W1.alloc (.cells #[.string (txt c.nm)] tS) = W := ⟨_, rfl⟩
      have HT2 := Lib.hid (show TS V v ((x.cols.take j).map (·.nm)) W2 from by rw [← hW2]; exact (HE1.out.call hbw).call (al (Below.refl _ _) _))
      have HR2 := Lib.hid (show Row W2 (W1.heap.size + 1) (some ⟨W1.heap.size, 0, none⟩) ([c.nm].map str) from by rw [← hW2]; exact row_new W1 [c.nm])
      have HLN := Lib.hid (show ((x.cols.take j).map (·.nm)).length + 1 ≤ 100000 from by have h4 := HN4.out; simp only [List.length_map, List.length_take]; omega)
      have HSN := Lib.hid (show ∀ v' w', TS V v' (((x.cols.take j).map (·.nm)) ++ [c.nm]) w' → TS V v' ((x.cols.take (j + 1)).map (·.nm)) w' from fun v' w' g => by rw [take_map_on hc]; exact g)
      clear hlo hA hb1 hc hbw hcel g0 g1 g2
      go_wp2_with (at_builtin; refine wp_app HT2.out (.tmp 13) (.tmp 16) rfl rfl rfl rfl HR2.out rfl (fun e => by cases e) HLN.out ?_; intro v2 w2 g1 g2 g3 g4; have HR := Lib.hid (HSN.out _ _ g1); clear g1 g2 g3 g4)
      go_roundw
      case rel => exact ⟨j + 1, _, by omega, by go_num, rfl, HR⟩
      case measure => simp [intOf]; omega
      -->
    · have tl : decide ((j : Int) < (f.n3 : Int)) = false := decide_eq_false (by omega)
      have tl2 : decide (j < f.n3) = false := decide_eq_false hlt
      obtain rfl : j = f.n3 := by omega
      have T3 := Lib.hid (show TS V v (x.cols.map (·.nm)) wr from by have h1 := HE1.out; rw [HN3.out, List.take_length] at h1; exact h1)
      go_wp2
      go_ret
      exact TxtD.of T3.out HB.out
set_option maxRecDepth 20000 in
set_option maxHeartbeats 4000000 in
theorem labels_any (x : Tb) (f : Fb) (w : World) (hx : FbIn w w.heap.size f x) (h4 : f.n4 ≤ 10000) (h5 : f.n5 ≤ 10000) : Calls Tryd.prog 58 #[.agg (f.cells x).toArray] w (TxtD (x.cons.map (·.nm) ++ x.idx.map (·.1)) w) := by
  obtain ⟨V, hV⟩ : ∃ W1, w.alloc (.cells (f.cells x).toArray tTb) = W1 := ⟨_, rfl⟩
  have hb : Below w.heap.size w V := by rw [← hV]; exact al (Below.refl _ _) _
  have HX := Lib.hid (show Tbx V w.heap.size f x from by rw [← hV]; exact tbx_new hx)
  have HB := Lib.hid hb
  have HN3 := Lib.hid hx.n3
  have HN4 := Lib.hid hx.n4
  have HN5 := Lib.hid hx.n5
  have hv : f.cells x = [.string (txt x.nm), .string (txt x.own), .int .i64 x.ver, .slice f.A3 f.n3 f.a3, .slice f.A4 f.n4 f.a4, .slice f.A5 f.n5 f.a5] := rfl
  rw [hv] at hV ⊢
  clear hx hb hv
  have y4 : V.cell? ⟨w.heap.size, 4, none⟩ = some (.slice f.A4 f.n4 f.a4) := HX.out.at_ (Below.refl _ _) 4
  go_enter Tryd.func58, Tryd.ntmps58
  go_wp2
  clear y4 hV
  go_loopw [11, 3] (fun i u wr => ∃ (j : Nat) (v : Value), j ≤ f.n4 ∧ i = .int .i64 (j : Int) ∧ v = u ∧ Hid (TS V v ((x.cons.take j).map (·.nm)) wr)) (fun i _ _ => f.n4 + 1 - (intOf i).toNat)
  case atStart => exact ⟨0, _, Nat.zero_le _, rfl, rfl, Lib.hid (by simpa using ts_none (Below.refl _ _))⟩
  case round =>
    obtain ⟨j, v, hj, rfl, rfl, HE1⟩ := hrel
    have hmx : f.n4 ≤ 2 ^ 63 - 1 := by omega
    have hlo := HE1.out.low
    by_cases hlt : j < f.n4
    · --<
      obtain ⟨c, hc⟩ := some_at HN4.out.symm hlt
      have tl : decide ((j : Int) < (f.n4 : Int)) = true := decide_eq_true (by omega)
      have tl2 : decide (j < f.n4) = true := decide_eq_true hlt
      obtain ⟨b1, o1, P, pn, pc, k0, o0, vk, vn, vs, ns, A0, m0, c0, Q, qn, qc, hA, hb1, hp, -, -, -⟩ := cn_at HX.out.all.cons.2.2.2 hc
      rw [hA]
      have p0 : wr.cell? ⟨b1, o1 + j * 12, none⟩ = some (.string (txt c.nm)) := (hlo.cell (p := ⟨b1, o1 + j * 12, none⟩) hb1).trans (hp 0 _ rfl)
      have p1 : wr.cell? ⟨b1, o1 + j * 12 + 1, none⟩ = some (.int .i64 c.kind) := (hlo.cell (p := ⟨b1, o1 + j * 12 + 1, none⟩) hb1).trans (hp 1 _ rfl)
      have p2 : wr.cell? ⟨b1, o1 + j * 12 + 2, none⟩ = some (.slice P pn pc) := (hlo.cell (p := ⟨b1, o1 + j * 12 + 2, none⟩) hb1).trans (hp 2 _ rfl)
      have p3 : wr.cell? ⟨b1, o1 + j * 12 + 3, none⟩ = some (.int .i64 k0) := (hlo.cell (p := ⟨b1, o1 + j * 12 + 3, none⟩) hb1).trans (hp 3 _ rfl)
      have p4 : wr.cell? ⟨b1, o1 + j * 12 + 4, none⟩ = some (.int .i64 o0) := (hlo.cell (p := ⟨b1, o1 + j * 12 + 4, none⟩) hb1).trans (hp 4 _ rfl)
      have p5 : wr.cell? ⟨b1, o1 + j * 12 + 5, none⟩ = some (.int .i64 vk) := (hlo.cell (p := ⟨b1, o1 + j * 12 + 5, none⟩) hb1).trans (hp 5 _ rfl)
      have p6 : wr.cell? ⟨b1, o1 + j * 12 + 6, none⟩ = some (.int .i64 vn) := (hlo.cell (p := ⟨b1, o1 + j * 12 + 6, none⟩) hb1).trans (hp 6 _ rfl)
      have p7 : wr.cell? ⟨b1, o1 + j * 12 + 7, none⟩ = some (.string vs) := (hlo.cell (p := ⟨b1, o1 + j * 12 + 7, none⟩) hb1).trans (hp 7 _ rfl)
      have p8 : wr.cell? ⟨b1, o1 + j * 12 + 8, none⟩ = some (.string ns) := (hlo.cell (p := ⟨b1, o1 + j * 12 + 8, none⟩) hb1).trans (hp 8 _ rfl)
      have p9 : wr.cell? ⟨b1, o1 + j * 12 + 9, none⟩ = some (.slice A0 m0 c0) := (hlo.cell (p := ⟨b1, o1 + j * 12 + 9, none⟩) hb1).trans (hp 9 _ rfl)
      have p10 : wr.cell? ⟨b1, o1 + j * 12 + 10, none⟩ = some (.string (txt c.tbl)) := (hlo.cell (p := ⟨b1, o1 + j * 12 + 10, none⟩) hb1).trans (hp 10 _ rfl)
      have p11 : wr.cell? ⟨b1, o1 + j * 12 + 11, none⟩ = some (.slice Q qn qc) := (hlo.cell (p := ⟨b1, o1 + j * 12 + 11, none⟩) hb1).trans (hp 11 _ rfl)
      obtain ⟨W1, hW1⟩ : ∃ W, wr.alloc (.cells #[.string (txt c.nm), .int .i64 c.kind, .slice P pn pc, .int .i64 k0, .int .i64 o0, .int .i64 vk, .int .i64 vn, .string vs, .string ns, .slice A0 m0 c0, .string (txt c.tbl), .slice Q qn qc] 56) = W := ⟨_, rfl⟩
      have hbw : Below wr.heap.size wr W1 := by rw [← hW1]; exact al (Below.refl _ _) _
      have hcel : Cel W1 wr.heap.size 56 #[.string (txt c.nm), .int .i64 c.kind, .slice P pn pc, .int .i64 k0, .int .i64 o0, .int .i64 vk, .int .i64 vn, .string vs, .string ns, .slice A0 m0 c0, .string (txt c.tbl), .slice Q qn qc] := by rw [← hW1]; exact Cel.new _ _ _ rfl
      have q0 := hcel.at_ 0
      obtain ⟨W2, hW2⟩ : ∃ W, W1.alloc (.cells #[.string (txt c.nm)] tS) = W := ⟨_, rfl⟩
      have HT2 := Lib.hid (show TS V v ((x.cons.take j).map (·.nm)) W2 from by rw [← hW2]; exact (HE1.out.call hbw).call (al (Below.refl _ _) _))
      have HR2 := Lib.hid (show Row W2 (W1.heap.size + 1) (some ⟨W1.heap.size, 0, none⟩) ([c.nm].map str) from by rw [← hW2]; exact row_new W1 [c.nm])
      have HLN := Lib.hid (show ((x.cons.take j).map (·.nm)).length + 1 ≤ 100000 from by have h4 := HN4.out; simp only [List.length_map, List.length_take]; omega)
      have HSN := Lib.hid (show ∀ v' w', TS V v' (((x.cons.take j).map (·.nm)) ++ [c.nm]) w' → TS V v' ((x.cons.take (j + 1)).map (·.nm)) w' from fun v' w' g => by rw [take_map_on hc]; exact g)
      clear hlo hA hb1 hc hbw hcel hp
      go_wp2_with (at_builtin; refine wp_app HT2.out (.tmp 15) (.tmp 18) rfl rfl rfl rfl HR2.out rfl (fun e => by cases e) HLN.out ?_; intro v2 w2 g1 g2 g3 g4; have HR := Lib.hid (HSN.out _ _ g1); clear g1 g2 g3 g4)
      go_roundw
      case rel => exact ⟨j + 1, _, by omega, by go_num, rfl, HR⟩
      case measure => simp [intOf]; omega
      -->
    · have tl : decide ((j : Int) < (f.n4 : Int)) = false := decide_eq_false (by omega)
      have tl2 : decide (j < f.n4) = false := decide_eq_false hlt
      obtain rfl : j = f.n4 := by omega
      have T4 := Lib.hid (show TS V v (x.cons.map (·.nm)) wr from by have h1 := HE1.out; rw [HN4.out, List.take_length] at h1; exact h1)
      clear HE1 hj hlt tl tl2 hmx
      have y5 : wr.cell? ⟨w.heap.size, 5, none⟩ = some (.slice f.A5 f.n5 f.a5) := HX.out.at_ hlo 5
      go_wp2
      clear y5 hlo
      go_loopw [24, 3] (fun i u wr => ∃ (j : Nat) (v : Value), j ≤ f.n5 ∧ i = .int .i64 (j : Int) ∧ v = u ∧ Hid (TS V v (x.cons.map (·.nm) ++ (x.idx.take j).map (·.1)) wr)) (fun i _ _ => f.n5 + 1 - (intOf i).toNat)
      case atStart => exact ⟨0, _, Nat.zero_le _, rfl, rfl, by rw [List.take_zero, List.map_nil, List.append_nil]; exact T4⟩
      case round =>
        obtain ⟨j, v, hj, rfl, rfl, HE1⟩ := hrel
        have hmx : f.n5 ≤ 2 ^ 63 - 1 := by omega
        have hlo := HE1.out.low
        by_cases hlt : j < f.n5
        · --<
          obtain ⟨c, hc⟩ := some_at HN5.out.symm hlt
          have tl : decide ((j : Int) < (f.n5 : Int)) = true := decide_eq_true (by omega)
          have tl2 : decide (j < f.n5) = true := decide_eq_true hlt
          obtain ⟨b1, o1, P, pn, pc, hA, hb1, g0, g1, -⟩ := ix_at HX.out.all.idx.2.2.2 hc
          rw [hA]
          have p0 : wr.cell? ⟨b1, o1 + j * 2, none⟩ = some (.string (txt c.1)) := (hlo.cell (p := ⟨b1, o1 + j * 2, none⟩) hb1).trans (g0)
          have p1 : wr.cell? ⟨b1, o1 + j * 2 + 1, none⟩ = some (.slice P pn pc) := (hlo.cell (p := ⟨b1, o1 + j * 2 + 1, none⟩) hb1).trans (g1)
          obtain ⟨W1, hW1⟩ : ∃ W, wr.alloc (.cells #[.string (txt c.1), .slice P pn pc] 58) = W := ⟨_, rfl⟩
          have hbw : Below wr.heap.size wr W1 := by rw [← hW1]; exact al (Below.refl _ _) _
          have hcel : Cel W1 wr.heap.size 58 #[.string (txt c.1), .slice P pn pc] := by rw [← hW1]; exact Cel.new _ _ _ rfl
          have q0 := hcel.at_ 0
          obtain ⟨W2, hW2⟩ : ∃ W, W1.alloc (.cells #[.string (txt c.1)] tS) = W := ⟨_, rfl⟩
          have HT2 := Lib.hid (show TS V v (x.cons.map (·.nm) ++ (x.idx.take j).map (·.1)) W2 from by rw [← hW2]; exact (HE1.out.call hbw).call (al (Below.refl _ _) _))
          have HR2 := Lib.hid (show Row W2 (W1.heap.size + 1) (some ⟨W1.heap.size, 0, none⟩) ([c.1].map str) from by rw [← hW2]; exact row_new W1 [c.1])
          have HLN := Lib.hid (show (x.cons.map (·.nm) ++ (x.idx.take j).map (·.1)).length + 1 ≤ 100000 from by have h4 := HN4.out; simp only [List.length_append, List.length_map, List.length_take]; omega)
          have HSN := Lib.hid (show ∀ v' w', TS V v' ((x.cons.map (·.nm) ++ (x.idx.take j).map (·.1)) ++ [c.1]) w' → TS V v' (x.cons.map (·.nm) ++ (x.idx.take (j + 1)).map (·.1)) w' from fun v' w' g => by rw [take_map_on hc, ← List.append_assoc]; exact g)
          clear hlo hA hb1 hc hbw hcel g0 g1
          go_wp2_with (at_builtin; refine wp_app HT2.out (.tmp 28) (.tmp 31) rfl rfl rfl rfl HR2.out rfl (fun e => by cases e) HLN.out ?_; intro v2 w2 g1 g2 g3 g4; have HR := Lib.hid (HSN.out _ _ g1); clear g1 g2 g3 g4)
          go_roundw
          case rel => exact ⟨j + 1, _, by omega, by go_num, rfl, HR⟩
          case measure => simp [intOf]; omega
          -->
        · have tl : decide ((j : Int) < (f.n5 : Int)) = false := decide_eq_false (by omega)
          have tl2 : decide (j < f.n5) = false := decide_eq_false hlt
          obtain rfl : j = f.n5 := by omega
          have T5 := Lib.hid (show TS V v (x.cons.map (·.nm) ++ x.idx.map (·.1)) wr from by have h1 := HE1.out; rw [HN5.out, List.take_length] at h1; exact h1)
          go_wp2
          go_ret
          exact TxtD.of T5.out HB.out
end Go.Proofs.YtcblddpapehdeaaDoor.Tk
