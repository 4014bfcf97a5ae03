/- The names of a table's columns; of its constraints and indexes: the program's calls. Is a text in a list twice? The program's set of what it has met. -/
import Derived.Test.YtcblddpapehdeaaDoorC05
import Derived.Maps.OwnSet
namespace Go.Proofs.YtcblddpapehdeaaDoor.Tk
open Go.RowKit Go.Proofs.YtcblddpapehdeaaDoor.Mem Go.Proofs.YtcblddpapehdeaaDoor.Ep Go.Proofs.YtcblddpapehdeaaDoor.Sm Go.ChangeShapes Go.WideShapes
set_option linter.unusedVariables false
/-- A list of texts of the call's own. -/
def TxtD (L : List Bs) (w : World) (e : Ending) (w' : World) : Prop := ∃ A c, e = .returned (.slice A L.length c) ∧ TS w (.slice A L.length c) L w'
theorem own_less {w : World} {b b' : Nat} {e : TypeId} {k : Nat} {v : Value} {n : Nat} {us : List Value} (h : w.ownsRow b e k v n us) (hb : b' ≤ b) : w.ownsRow b' e k v n us :=
  ⟨h.1, h.2.imp id fun ⟨g, cap, cur, h1, h2, h3⟩ => ⟨g, cap, cur, h1, Nat.le_trans hb h2, h3⟩⟩
theorem TxtD.of {V w w' : World} {L : List Bs} {v : Value} (h : TS V v L w') (hb : Below w.heap.size w V) : TxtD L w (.returned v) w' := by
  obtain ⟨A, c, rfl, -⟩ := h.form
  exact ⟨A, c, rfl, own_less h.own hb.size, hb.trans (h.low.mono hb.size)⟩
set_option maxRecDepth 20000 in
set_option maxHeartbeats 4000000 in
theorem columns_any (x : Tb) (f : Fb) (w : World) (hx : FbIn w w.heap.size f x) (h3 : f.n3 ≤ 10000) : Calls Tryd.prog 79 #[.agg (f.cells x).toArray] w (TxtD (x.cols.map (·.nm)) w) := by
  obtain ⟨V, hV⟩ : ∃ W1, w.alloc (.cells (f.cells x).toArray tTb) = W1 := ⟨_, rfl⟩
  have hb : Below w.heap.size w V := by rw [← hV]; exact al (Below.refl _ _) _
  have HX := Lib.hid (show Tbx V w.heap.size f x from by rw [← hV]; exact tbx_new hx)
  have HB := Lib.hid hb
  have HN3 := Lib.hid hx.n3
  have HN4 := Lib.hid hx.n4
  have HN5 := Lib.hid hx.n5
  have hv : f.cells x = [.string (txt x.nm), .string (txt x.own), .int .i64 x.ver, .slice f.A3 f.n3 f.a3, .slice f.A4 f.n4 f.a4, .slice f.A5 f.n5 f.a5] := rfl
  rw [hv] at hV ⊢
  clear hx hb hv
  have y3 : V.cell? ⟨w.heap.size, 3, none⟩ = some (.slice f.A3 f.n3 f.a3) := HX.out.at_ (Below.refl _ _) 3
  go_enter Tryd.func79, Tryd.ntmps79
  go_wp2
  clear y3 hV
  go_loopw [9, 3] (fun i u wr => ∃ (j : Nat) (v : Value), j ≤ f.n3 ∧ i = .int .i64 (j : Int) ∧ v = u ∧ Hid (TS V v ((x.cols.take j).map (·.nm)) wr)) (fun i _ _ => f.n3 + 1 - (intOf i).toNat)
  case atStart => exact ⟨0, _, Nat.zero_le _, rfl, rfl, Lib.hid (by simpa using ts_none (Below.refl _ _))⟩
  case round =>
    obtain ⟨j, v, hj, rfl, rfl, HE1⟩ := hrel
    have hmx : f.n3 ≤ 2 ^ 63 - 1 := by omega
    have hlo := HE1.out.low
    by_cases hlt : j < f.n3
    · --<
      obtain ⟨c, hc⟩ := some_at HN3.out.symm hlt
      have tl : decide ((j : Int) < (f.n3 : Int)) = true := decide_eq_true (by omega)
      have tl2 : decide (j < f.n3) = true := decide_eq_true hlt
      obtain ⟨b1, o1, hA, hb1, g0, g1, g2⟩ := co_at HX.out.all.cols.2.2.2 hc
      rw [hA]
      have p0 : wr.cell? ⟨b1, o1 + j * 3, none⟩ = some (.string (txt c.nm)) := (hlo.cell (p := ⟨b1, o1 + j * 3, none⟩) hb1).trans (g0)
      have p1 : wr.cell? ⟨b1, o1 + j * 3 + 1, none⟩ = some (.int .i64 c.ty) := (hlo.cell (p := ⟨b1, o1 + j * 3 + 1, none⟩) hb1).trans (g1)
      have p2 : wr.cell? ⟨b1, o1 + j * 3 + 2, none⟩ = some (.bool c.nn) := (hlo.cell (p := ⟨b1, o1 + j * 3 + 2, none⟩) hb1).trans (g2)
      obtain ⟨W1, hW1⟩ : ∃ W, wr.alloc (.cells #[.string (txt c.nm), .int .i64 c.ty, .bool c.nn] 49) = W := ⟨_, rfl⟩
      have hbw : Below wr.heap.size wr W1 := by rw [← hW1]; exact al (Below.refl _ _) _
      have hcel : Cel W1 wr.heap.size 49 #[.string (txt c.nm), .int .i64 c.ty, .bool c.nn] := by rw [← hW1]; exact Cel.new _ _ _ rfl
      have q0 := hcel.at_ 0
      obtain ⟨W2, hW2⟩ : ∃ W, W1.alloc (.cells #[.string (txt c.nm)] tS) = W := ⟨_, rfl⟩
      have HT2 := Lib.hid (show TS V v ((x.cols.take j).map (·.nm)) W2 from by rw [← hW2]; exact (HE1.out.call hbw).call (al (Below.refl _ _) _))
      have HR2 := Lib.hid (show Row W2 (W1.heap.size + 1) (some ⟨W1.heap.size, 0, none⟩) ([c.nm].map str) from by rw [← hW2]; exact row_new W1 [c.nm])
      have HLN := Lib.hid (show ((x.cols.take j).map (·.nm)).length + 1 ≤ 100000 from by have h4 := HN4.out; simp only [List.length_map, List.length_take]; omega)
      have HSN := Lib.hid (show ∀ v' w', TS V v' (((x.cols.take j).map (·.nm)) ++ [c.nm]) w' → TS V v' ((x.cols.take (j + 1)).map (·.nm)) w' from fun v' w' g => by rw [take_map_on hc]; exact g)
      clear hlo hA hb1 hc hbw hcel g0 g1 g2
      go_wp2_with (at_builtin; refine wp_app HT2.out (.tmp 13) (.tmp 16) rfl rfl rfl rfl HR2.out rfl (fun e => by cases e) HLN.out ?_; intro v2 w2 g1 g2 g3 g4; have HR := Lib.hid (HSN.out _ _ g1); clear g1 g2 g3 g4)
      go_roundw
      case rel => exact ⟨j + 1, _, by omega, by go_num, rfl, HR⟩
      case measure => simp [intOf]; omega
      -->
    · have tl : decide ((j : Int) < (f.n3 : Int)) = false := decide_eq_false (by omega)
      have tl2 : decide (j < f.n3) = false := decide_eq_false hlt
      obtain rfl : j = f.n3 := by omega
      have T3 := Lib.hid (show TS V v (x.cols.map (·.nm)) wr from by have h1 := HE1.out; rw [HN3.out, List.take_length] at h1; exact h1)
      go_wp2
      go_ret
      exact TxtD.of T3.out HB.out
set_option maxRecDepth 20000 in
set_option maxHeartbeats 4000000 in
theorem labels_any (x : Tb) (f : Fb) (w : World) (hx : FbIn w w.heap.size f x) (h4 : f.n4 ≤ 10000) (h5 : f.n5 ≤ 10000) : Calls Tryd.prog 58 #[.agg (f.cells x).toArray] w (TxtD (x.cons.map (·.nm) ++ x.idx.map (·.1)) w) := by
  obtain ⟨V, hV⟩ : ∃ W1, w.alloc (.cells (f.cells x).toArray tTb) = W1 := ⟨_, rfl⟩
  have hb : Below w.heap.size w V := by rw [← hV]; exact al (Below.refl _ _) _
  have HX := Lib.hid (show Tbx V w.heap.size f x from by rw [← hV]; exact tbx_new hx)
  have HB := Lib.hid hb
  have HN3 := Lib.hid hx.n3
  have HN4 := Lib.hid hx.n4
  have HN5 := Lib.hid hx.n5
  have hv : f.cells x = [.string (txt x.nm), .string (txt x.own), .int .i64 x.ver, .slice f.A3 f.n3 f.a3, .slice f.A4 f.n4 f.a4, .slice f.A5 f.n5 f.a5] := rfl
  rw [hv] at hV ⊢
  clear hx hb hv
  have y4 : V.cell? ⟨w.heap.size, 4, none⟩ = some (.slice f.A4 f.n4 f.a4) := HX.out.at_ (Below.refl _ _) 4
  go_enter Tryd.func58, Tryd.ntmps58
  go_wp2
  clear y4 hV
  go_loopw [11, 3] (fun i u wr => ∃ (j : Nat) (v : Value), j ≤ f.n4 ∧ i = .int .i64 (j : Int) ∧ v = u ∧ Hid (TS V v ((x.cons.take j).map (·.nm)) wr)) (fun i _ _ => f.n4 + 1 - (intOf i).toNat)
  case atStart => exact ⟨0, _, Nat.zero_le _, rfl, rfl, Lib.hid (by simpa using ts_none (Below.refl _ _))⟩
  case round =>
    obtain ⟨j, v, hj, rfl, rfl, HE1⟩ := hrel
    have hmx : f.n4 ≤ 2 ^ 63 - 1 := by omega
    have hlo := HE1.out.low
    by_cases hlt : j < f.n4
    · --<
      obtain ⟨c, hc⟩ := some_at HN4.out.symm hlt
      have tl : decide ((j : Int) < (f.n4 : Int)) = true := decide_eq_true (by omega)
      have tl2 : decide (j < f.n4) = true := decide_eq_true hlt
      obtain ⟨b1, o1, P, pn, pc, k0, o0, vk, vn, vs, ns, A0, m0, c0, Q, qn, qc, hA, hb1, hp, -, -, -⟩ := cn_at HX.out.all.cons.2.2.2 hc
      rw [hA]
      have p0 : wr.cell? ⟨b1, o1 + j * 12, none⟩ = some (.string (txt c.nm)) := (hlo.cell (p := ⟨b1, o1 + j * 12, none⟩) hb1).trans (hp 0 _ rfl)
      have p1 : wr.cell? ⟨b1, o1 + j * 12 + 1, none⟩ = some (.int .i64 c.kind) := (hlo.cell (p := ⟨b1, o1 + j * 12 + 1, none⟩) hb1).trans (hp 1 _ rfl)
      have p2 : wr.cell? ⟨b1, o1 + j * 12 + 2, none⟩ = some (.slice P pn pc) := (hlo.cell (p := ⟨b1, o1 + j * 12 + 2, none⟩) hb1).trans (hp 2 _ rfl)
      have p3 : wr.cell? ⟨b1, o1 + j * 12 + 3, none⟩ = some (.int .i64 k0) := (hlo.cell (p := ⟨b1, o1 + j * 12 + 3, none⟩) hb1).trans (hp 3 _ rfl)
      have p4 : wr.cell? ⟨b1, o1 + j * 12 + 4, none⟩ = some (.int .i64 o0) := (hlo.cell (p := ⟨b1, o1 + j * 12 + 4, none⟩) hb1).trans (hp 4 _ rfl)
      have p5 : wr.cell? ⟨b1, o1 + j * 12 + 5, none⟩ = some (.int .i64 vk) := (hlo.cell (p := ⟨b1, o1 + j * 12 + 5, none⟩) hb1).trans (hp 5 _ rfl)
      have p6 : wr.cell? ⟨b1, o1 + j * 12 + 6, none⟩ = some (.int .i64 vn) := (hlo.cell (p := ⟨b1, o1 + j * 12 + 6, none⟩) hb1).trans (hp 6 _ rfl)
      have p7 : wr.cell? ⟨b1, o1 + j * 12 + 7, none⟩ = some (.string vs) := (hlo.cell (p := ⟨b1, o1 + j * 12 + 7, none⟩) hb1).trans (hp 7 _ rfl)
      have p8 : wr.cell? ⟨b1, o1 + j * 12 + 8, none⟩ = some (.string ns) := (hlo.cell (p := ⟨b1, o1 + j * 12 + 8, none⟩) hb1).trans (hp 8 _ rfl)
      have p9 : wr.cell? ⟨b1, o1 + j * 12 + 9, none⟩ = some (.slice A0 m0 c0) := (hlo.cell (p := ⟨b1, o1 + j * 12 + 9, none⟩) hb1).trans (hp 9 _ rfl)
      have p10 : wr.cell? ⟨b1, o1 + j * 12 + 10, none⟩ = some (.string (txt c.tbl)) := (hlo.cell (p := ⟨b1, o1 + j * 12 + 10, none⟩) hb1).trans (hp 10 _ rfl)
      have p11 : wr.cell? ⟨b1, o1 + j * 12 + 11, none⟩ = some (.slice Q qn qc) := (hlo.cell (p := ⟨b1, o1 + j * 12 + 11, none⟩) hb1).trans (hp 11 _ rfl)
      obtain ⟨W1, hW1⟩ : ∃ W, wr.alloc (.cells #[.string (txt c.nm), .int .i64 c.kind, .slice P pn pc, .int .i64 k0, .int .i64 o0, .int .i64 vk, .int .i64 vn, .string vs, .string ns, .slice A0 m0 c0, .string (txt c.tbl), .slice Q qn qc] 56) = W := ⟨_, rfl⟩
      have hbw : Below wr.heap.size wr W1 := by rw [← hW1]; exact al (Below.refl _ _) _
      have hcel : Cel W1 wr.heap.size 56 #[.string (txt c.nm), .int .i64 c.kind, .slice P pn pc, .int .i64 k0, .int .i64 o0, .int .i64 vk, .int .i64 vn, .string vs, .string ns, .slice A0 m0 c0, .string (txt c.tbl), .slice Q qn qc] := by rw [← hW1]; exact Cel.new _ _ _ rfl
      have q0 := hcel.at_ 0
      obtain ⟨W2, hW2⟩ : ∃ W, W1.alloc (.cells #[.string (txt c.nm)] tS) = W := ⟨_, rfl⟩
      have HT2 := Lib.hid (show TS V v ((x.cons.take j).map (·.nm)) W2 from by rw [← hW2]; exact (HE1.out.call hbw).call (al (Below.refl _ _) _))
      have HR2 := Lib.hid (show Row W2 (W1.heap.size + 1) (some ⟨W1.heap.size, 0, none⟩) ([c.nm].map str) from by rw [← hW2]; exact row_new W1 [c.nm])
      have HLN := Lib.hid (show ((x.cons.take j).map (·.nm)).length + 1 ≤ 100000 from by have h4 := HN4.out; simp only [List.length_map, List.length_take]; omega)
      have HSN := Lib.hid (show ∀ v' w', TS V v' (((x.cons.take j).map (·.nm)) ++ [c.nm]) w' → TS V v' ((x.cons.take (j + 1)).map (·.nm)) w' from fun v' w' g => by rw [take_map_on hc]; exact g)
      clear hlo hA hb1 hc hbw hcel hp
      go_wp2_with (at_builtin; refine wp_app HT2.out (.tmp 15) (.tmp 18) rfl rfl rfl rfl HR2.out rfl (fun e => by cases e) HLN.out ?_; intro v2 w2 g1 g2 g3 g4; have HR := Lib.hid (HSN.out _ _ g1); clear g1 g2 g3 g4)
      go_roundw
      case rel => exact ⟨j + 1, _, by omega, by go_num, rfl, HR⟩
      case measure => simp [intOf]; omega
      -->
    · have tl : decide ((j : Int) < (f.n4 : Int)) = false := decide_eq_false (by omega)
      have tl2 : decide (j < f.n4) = false := decide_eq_false hlt
      obtain rfl : j = f.n4 := by omega
      have T4 := Lib.hid (show TS V v (x.cons.map (·.nm)) wr from by have h1 := HE1.out; rw [HN4.out, List.take_length] at h1; exact h1)
      clear HE1 hj hlt tl tl2 hmx
      have y5 : wr.cell? ⟨w.heap.size, 5, none⟩ = some (.slice f.A5 f.n5 f.a5) := HX.out.at_ hlo 5
      go_wp2
      clear y5 hlo
      go_loopw [24, 3] (fun i u wr => ∃ (j : Nat) (v : Value), j ≤ f.n5 ∧ i = .int .i64 (j : Int) ∧ v = u ∧ Hid (TS V v (x.cons.map (·.nm) ++ (x.idx.take j).map (·.1)) wr)) (fun i _ _ => f.n5 + 1 - (intOf i).toNat)
      case atStart => exact ⟨0, _, Nat.zero_le _, rfl, rfl, by rw [List.take_zero, List.map_nil, List.append_nil]; exact T4⟩
      case round =>
        obtain ⟨j, v, hj, rfl, rfl, HE1⟩ := hrel
        have hmx : f.n5 ≤ 2 ^ 63 - 1 := by omega
        have hlo := HE1.out.low
        by_cases hlt : j < f.n5
        · --<
          obtain ⟨c, hc⟩ := some_at HN5.out.symm hlt
          have tl : decide ((j : Int) < (f.n5 : Int)) = true := decide_eq_true (by omega)
          have tl2 : decide (j < f.n5) = true := decide_eq_true hlt
          obtain ⟨b1, o1, P, pn, pc, hA, hb1, g0, g1, -⟩ := ix_at HX.out.all.idx.2.2.2 hc
          rw [hA]
          have p0 : wr.cell? ⟨b1, o1 + j * 2, none⟩ = some (.string (txt c.1)) := (hlo.cell (p := ⟨b1, o1 + j * 2, none⟩) hb1).trans (g0)
          have p1 : wr.cell? ⟨b1, o1 + j * 2 + 1, none⟩ = some (.slice P pn pc) := (hlo.cell (p := ⟨b1, o1 + j * 2 + 1, none⟩) hb1).trans (g1)
          obtain ⟨W1, hW1⟩ : ∃ W, wr.alloc (.cells #[.string (txt c.1), .slice P pn pc] 58) = W := ⟨_, rfl⟩
          have hbw : Below wr.heap.size wr W1 := by rw [← hW1]; exact al (Below.refl _ _) _
          have hcel : Cel W1 wr.heap.size 58 #[.string (txt c.1), .slice P pn pc] := by rw [← hW1]; exact Cel.new _ _ _ rfl
          have q0 := hcel.at_ 0
          obtain ⟨W2, hW2⟩ : ∃ W, W1.alloc (.cells #[.string (txt c.1)] tS) = W := ⟨_, rfl⟩
          have HT2 := Lib.hid (show TS V v (x.cons.map (·.nm) ++ (x.idx.take j).map (·.1)) W2 from by rw [← hW2]; exact (HE1.out.call hbw).call (al (Below.refl _ _) _))
          have HR2 := Lib.hid (show Row W2 (W1.heap.size + 1) (some ⟨W1.heap.size, 0, none⟩) ([c.1].map str) from by rw [← hW2]; exact row_new W1 [c.1])
          have HLN := Lib.hid (show (x.cons.map (·.nm) ++ (x.idx.take j).map (·.1)).length + 1 ≤ 100000 from by have h4 := HN4.out; simp only [List.length_append, List.length_map, List.length_take]; omega)
          have HSN := Lib.hid (show ∀ v' w', TS V v' ((x.cons.map (·.nm) ++ (x.idx.take j).map (·.1)) ++ [c.1]) w' → TS V v' (x.cons.map (·.nm) ++ (x.idx.take (j + 1)).map (·.1)) w' from fun v' w' g => by rw [take_map_on hc, ← List.append_assoc]; exact g)
          clear hlo hA hb1 hc hbw hcel g0 g1
          go_wp2_with (at_builtin; refine wp_app HT2.out (.tmp 28) (.tmp 31) rfl rfl rfl rfl HR2.out rfl (fun e => by cases e) HLN.out ?_; intro v2 w2 g1 g2 g3 g4; have HR := Lib.hid (HSN.out _ _ g1); clear g1 g2 g3 g4)
          go_roundw
          case rel => exact ⟨j + 1, _, by omega, by go_num, rfl, HR⟩
          case measure => simp [intOf]; omega
          -->
        · have tl : decide ((j : Int) < (f.n5 : Int)) = false := decide_eq_false (by omega)
          have tl2 : decide (j < f.n5) = false := decide_eq_false hlt
          obtain rfl : j = f.n5 := by omega
          have T5 := Lib.hid (show TS V v (x.cons.map (·.nm) ++ x.idx.map (·.1)) wr from by have h1 := HE1.out; rw [HN5.out, List.take_length] at h1; exact h1)
          go_wp2
          go_ret
          exact TxtD.of T5.out HB.out
end Go.Proofs.YtcblddpapehdeaaDoor.Tk
namespace Go.Proofs.YtcblddpapehdeaaDoor.Tk
open Go.RowKit Go.Proofs.YtcblddpapehdeaaDoor.Mem Go.Proofs.YtcblddpapehdeaaDoor.Ep Go.Proofs.YtcblddpapehdeaaDoor.Right Go.Maps
set_option linter.unusedVariables false
abbrev tSet : TypeId := 148
abbrev tUnit : TypeId := 149
def repB (L : List Bs) : Bool := decide (¬ L.Nodup)
def keysOf (L : List Bs) : List Lit := L.map Lit.string
def SetD (L : List Bs) : DataW Unit := setOf (.agg []) (keysOf L)
theorem setD_on (L : List Bs) (s : Bs) : SetD (L ++ [s]) = (SetD L).put (.string s) (.agg []) := by
  unfold SetD keysOf
  rw [List.map_append, List.map_singleton, setOf_snoc]
theorem has_setD (L : List Bs) (s : Bs) : Maps.has (SetD L) (.string s) = decide (s ∈ L) := by
  unfold SetD keysOf
  rw [has_setOf _ _ _ (fun y hy => by obtain ⟨_, _, rfl⟩ := List.mem_map.1 hy; trivial)]
  rw [Bool.eq_iff_iff, List.any_eq_true, decide_eq_true_iff]
  constructor
  · rintro ⟨y, hy, h⟩
    obtain ⟨t, ht, rfl⟩ := List.mem_map.1 hy
    have := (WideAt.sameKey_iff (b := .string s) trivial).1 h
    injection this with e
    exact e ▸ ht
  · intro h
    exact ⟨_, List.mem_map.2 ⟨s, h, rfl⟩, WideAt.sameKey_self trivial⟩
theorem rep_yes {L : List Bs} {j : Nat} {s : Bs} (h : L[j]? = some s) (hm : s ∈ L.take j) : repB L = true := by
  unfold repB
  rw [decide_eq_true_iff]
  intro hn
  obtain ⟨i, hi, e⟩ := List.mem_iff_getElem.1 hm
  rw [List.length_take] at hi
  rw [List.getElem_take] at e
  obtain ⟨hj, e2⟩ := List.getElem?_eq_some_iff.1 h
  exact (List.pairwise_iff_getElem.1 hn) i j (by omega) hj (by omega) (by rw [e, e2])
theorem nodup_on {L : List Bs} {j : Nat} {s : Bs} (h : L[j]? = some s) (hm : ¬ s ∈ L.take j) (hn : (L.take j).Nodup) : (L.take (j + 1)).Nodup := by
  rw [List.take_add_one, h]
  show (L.take j ++ [s]).Nodup
  rw [List.nodup_append]
  exact ⟨hn, by simp, fun a ha b hb => by simp at hb; subst hb; rintro rfl; exact hm ha⟩
theorem lawS : Keyed Tryd.prog tS := string_keyed Tryd.underlying9
theorem zeroU (w : World) : (zeroValue tUnit).run Tryd.prog w = .ok (.agg #[]) w := by kernel_rfl
theorem txt_key (s : Bs) (h : s.length ≤ maxLen) : keyOf Tryd.prog tS (.string (txt s)) = some (.string s) := by
  have := Go.WideMaps.keyOf_string_mk (k := tS) Tryd.underlying9 (s := txt s) (by show s.toArray.size ≤ maxLen; simpa using h)
  rw [this]
  show some (Lit.string s.toArray.toList) = _
  simp
section
variable {A : Option Addr} {c : Nat} {L : List Bs} {w : World}
set_option maxRecDepth 100000 in
set_option maxHeartbeats 2000000 in
theorem repeats_any (n : Nat) (hn : L.length = n) (hN : n ≤ 100000) (hz : ∀ s ∈ L, s.length ≤ 1000000) (h : Row w w.heap.size A (L.map str)) : Calls Tryd.prog 83 #[.slice A n c] w fun e w' => e = .returned (.bool (repB L)) ∧ Below w.heap.size w w' := by
  have HN := Lib.hid hn
  have H := Lib.hid h
  have HZ := Lib.hid hz
  have hmm := @run_makeMap Tryd.prog
  clear hn h hz
  go_enter Tryd.func83, Tryd.ntmps83
  go_wp2
  go_loopw [11] (fun i wr => ∃ j : Nat, j ≤ n ∧ i = .int .i64 (j : Int) ∧ Hid (wr.ownsMap Tryd.prog tS unitElem w.heap.size j (SetD (L.take j))) ∧ Hid ((L.take j).Nodup) ∧ Hid (Below w.heap.size w wr)) (fun i _ => n + 1 - (intOf i).toNat)
  case atStart => exact ⟨0, Nat.zero_le _, rfl, Lib.hid (World.ownsMap_made _ _ _ _), Lib.hid (by simp), Lib.hid (al (Below.refl _ _) _)⟩
  case round =>
    obtain ⟨j, hj, rfl, HM, HT, HB⟩ := hrel
    by_cases hlt : j < n
    · --<
      have tl : decide ((j : Int) < (n : Int)) = true := decide_eq_true (by omega)
      have tl2 : decide (j < n) = true := decide_eq_true hlt
      obtain ⟨s, hs⟩ := some_at HN.out hlt
      obtain ⟨b, o, rfl, hb, c0⟩ := (H.out.below HB.out (Nat.le_refl _)) j (str s) (by rw [List.getElem?_map, hs]; rfl)
      unfold str at c0
      have HK := Lib.hid (txt_key s (Nat.le_trans (HZ.out s (List.mem_of_getElem? hs)) (by unfold maxLen; omega)))
      have HS := Lib.hid hs
      obtain ⟨q, hq⟩ : ∃ q, Maps.has (SetD (L.take j)) (.string s) = q := ⟨_, rfl⟩
      have HQ := Lib.hid (show decide (s ∈ L.take j) = q from by rw [← has_setD]; exact hq)
      clear hs
      cases q with
      | true =>
        have HF := Lib.hid (rep_yes HS.out (of_decide_eq_true HQ.out))
        go_wp2_with (first | (at_lookup; refine wpList_lookup_own_unit _ rfl _ _ tSet rfl tS tUnit lawS Tryd.underlying148 (zeroU _) w.heap.size j _ rfl HM.out _ _ rfl HK.out ?_; rw [hq]) | go_in)
        go_ret
        exact ⟨rb HF.out.symm, al HB.out _⟩
      | false =>
        have HT2 := Lib.hid (nodup_on HS.out (of_decide_eq_false HQ.out) HT.out)
        have HE := Lib.hid (show SetD (L.take (j + 1)) = (SetD (L.take j)).put (.string s) (.agg []) from by rw [List.take_add_one, HS.out]; exact setD_on _ _)
        go_wp2_with (first | (at_lookup; refine wpList_lookup_own_unit _ rfl _ _ tSet rfl tS tUnit lawS Tryd.underlying148 (zeroU _) w.heap.size j _ rfl HM.out _ _ rfl HK.out ?_; rw [hq]) | (at_mapUpdate; refine wpList_mapUpdate_own _ rfl _ _ _ tSet rfl tS tUnit lawS Tryd.underlying148 (unitElem (H := Unit)) w.heap.size j _ rfl (HM.out.alloc _) (by unfold maxLen; omega) _ _ _ rfl rfl HK.out _ [] unitElem_mk ?_; intro w1 hown1 hgrow1; have HO1 := Lib.hid hown1; have HG1 := Lib.hid hgrow1; clear hown1 hgrow1) | go_in)
        go_roundw
        case rel => exact ⟨j + 1, by omega, by go_num, by rw [HE.out]; exact HO1, HT2, Lib.hid ((al HB.out _).grown HG1.out (al HB.out _).size (fun j hj => by cases hj; exact Nat.le_refl _))⟩
        case measure => simp [intOf]; omega
      -->
    · have tl : decide ((j : Int) < (n : Int)) = false := decide_eq_false (by omega)
      have tl2 : decide (j < n) = false := decide_eq_false hlt
      have HF := Lib.hid (show repB L = false from by
        have h1 := HT.out
        rw [List.take_of_length_le (by have := HN.out; omega)] at h1
        unfold repB
        rw [decide_eq_false_iff_not]
        exact fun g => g h1)
      go_wp2
      go_ret
      exact ⟨rb HF.out.symm, HB.out⟩
end
end Go.Proofs.YtcblddpapehdeaaDoor.Tk
