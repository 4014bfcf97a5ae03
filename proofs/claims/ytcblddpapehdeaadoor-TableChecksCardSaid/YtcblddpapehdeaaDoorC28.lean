/- The names of a table's columns; of its constraints and indexes: what the document answers. -/
import Derived.Test.YtcblddpapehdeaaDoorC19
namespace Go.Proofs.YtcblddpapehdeaaDoor.Tk
open Go.RowKit Go.Proofs.YtcblddpapehdeaaDoor.Mem Go.Proofs.YtcblddpapehdeaaDoor.Ep Go.Proofs.YtcblddpapehdeaaDoor.Sm Go.ChangeShapes Go.WideShapes
set_option linter.unusedVariables false
/-- Two lists of texts. -/
def Txt2 (L M : List Bs) (w : World) (e : Ending) (w' : World) : Prop := ∃ A c B d, e = .returned (.tuple #[.slice A L.length c, .slice B M.length d]) ∧ Row w' w'.heap.size A (L.map str) ∧ Row w' w'.heap.size B (M.map str) ∧ (A = none → c = 0) ∧ (B = none → d = 0) ∧ Below w.heap.size w w'
def Txt2c (L M : List Bs) (w : World) (e : Ending) (w' : World) : Prop := ∃ A c B d, e = .returned (.tuple #[.slice A L.length c, .slice B M.length d]) ∧ Row w' w'.heap.size A (L.map str) ∧ Row w' w'.heap.size B (M.map str) ∧ (A = none → c = 0) ∧ (B = none → d = 0) ∧ Below w.heap.size w w' ∧ (L.length ≤ c ∧ c ≤ maxLen) ∧ (M.length ≤ d ∧ d ≤ maxLen)
theorem TS.caps {V w : World} {A : Option Addr} {n c : Nat} {L : List Bs} (h : TS V (.slice A n c) L w) : L.length ≤ c ∧ c ≤ maxLen := by
  rcases h.own.2 with ⟨hv, h0⟩ | ⟨g, cap, cur, hv, _, _, h1, h2, _⟩
  · injection hv with _ _ e
    subst e
    exact ⟨by omega, Nat.zero_le _⟩
  · injection hv with _ _ e
    subst e
    exact ⟨h1, h2⟩
set_option maxRecDepth 20000 in
set_option maxHeartbeats 4000000 in
theorem refNames2_any (x : Tb) (f : Fb) (w : World) (hx : FbIn w w.heap.size f x) (h3 : f.n3 ≤ 10000) (h4 : f.n4 ≤ 10000) (h5 : f.n5 ≤ 10000) : Calls Tryd.prog 18 #[.agg #[.string (txt x.nm), .string (txt x.own), .int .i64 x.ver, .slice f.A3 f.n3 f.a3, .slice f.A4 f.n4 f.a4, .slice f.A5 f.n5 f.a5]] w (Txt2c (x.cols.map (·.nm)) (x.cons.map (·.nm) ++ x.idx.map (·.1)) w) := by
  obtain ⟨V, hV⟩ : ∃ W1, w.alloc (.cells #[.string (txt x.nm), .string (txt x.own), .int .i64 x.ver, .slice f.A3 f.n3 f.a3, .slice f.A4 f.n4 f.a4, .slice f.A5 f.n5 f.a5] tTb) = W1 := ⟨_, rfl⟩
  have hb : Below w.heap.size w V := by rw [← hV]; exact al (Below.refl _ _) _
  have HX := Lib.hid (show Tbx V w.heap.size f x from by rw [← hV]; exact tbx_new hx)
  have HE := Lib.hid (show ∀ W, Below V.heap.size V W → Below w.heap.size w W from fun W g => hb.trans (g.mono hb.size))
  have HN3 := Lib.hid hx.n3
  have HN4 := Lib.hid hx.n4
  have HN5 := Lib.hid hx.n5
  clear hx hb
  go_enter Tryd.func18, Tryd.ntmps18
  go_wp2
  clear hV
  go_loopw [6, 4] (fun i u wr => ∃ (j : Nat) (v : Value), j ≤ f.n3 ∧ i = .int .i64 (j : Int) ∧ v = u ∧ Hid (TS V v ((x.cols.take j).map (·.nm)) wr)) (fun i _ _ => f.n3 + 1 - (intOf i).toNat)
  case atStart => exact ⟨0, _, Nat.zero_le _, rfl, rfl, Lib.hid (by simpa using ts_none (Below.refl V.heap.size V))⟩
  case round =>
    obtain ⟨j, v, hj, rfl, rfl, HE1⟩ := hrel
    have hmx : f.n3 ≤ 2 ^ 63 - 1 := by omega
    have hlo : Below V.heap.size V wr := HE1.out.low
    have y3 : wr.cell? ⟨w.heap.size, 3, none⟩ = some (.slice f.A3 f.n3 f.a3) := HX.out.at_ hlo 3
    by_cases hlt : j < f.n3
    · --<
      obtain ⟨c, hc⟩ := some_at HN3.out.symm hlt
      have tl : decide ((j : Int) < (f.n3 : Int)) = true := decide_eq_true (by omega)
      have tl2 : decide (j < f.n3) = true := decide_eq_true hlt
      obtain ⟨b1, o1, hA, hb1, g0, -, -⟩ := co_at HX.out.all.cols.2.2.2 hc
      rw [hA] at y3
      have p0 : wr.cell? ⟨b1, o1 + j * 3, none⟩ = some (.string (txt c.nm)) := (hlo.cell (p := ⟨b1, o1 + j * 3, none⟩) hb1).trans (g0)
      obtain ⟨W2, hW2⟩ : ∃ W, wr.alloc (.cells #[.string (txt c.nm)] tS) = W := ⟨_, rfl⟩
      have HT2 := Lib.hid (show TS V v ((x.cols.take j).map (·.nm)) W2 from by rw [← hW2]; exact HE1.out.call (al (Below.refl _ _) _))
      have HR2 := Lib.hid (show Row W2 (wr.heap.size + 1) (some ⟨wr.heap.size, 0, none⟩) ([c.nm].map str) from by rw [← hW2]; exact row_new wr [c.nm])
      have HLN := Lib.hid (show ((x.cols.take j).map (·.nm)).length + 1 ≤ 100000 from by have h4 := HN4.out; simp only [List.length_map, List.length_take]; omega)
      have HSN := Lib.hid (show ∀ v' w', TS V v' (((x.cols.take j).map (·.nm)) ++ [c.nm]) w' → TS V v' ((x.cols.take (j + 1)).map (·.nm)) w' from fun v' w' g => by rw [take_map_on hc]; exact g)
      clear hlo hA hb1 hc g0
      go_wp2_with (at_builtin; refine wp_app HT2.out (.tmp 16) (.tmp 23) rfl rfl rfl rfl HR2.out rfl (fun e => by cases e) HLN.out ?_; intro v2 w2 g1 g2 g3 g4; have HR := Lib.hid (HSN.out _ _ g1); clear g1 g2 g3 g4)
      go_roundw
      case rel => exact ⟨j + 1, _, by omega, by go_num, rfl, HR⟩
      case measure => simp [intOf]; omega
      -->
    · have tl : decide ((j : Int) < (f.n3 : Int)) = false := decide_eq_false (by omega)
      have tl2 : decide (j < f.n3) = false := decide_eq_false hlt
      obtain rfl : j = f.n3 := by omega
      have T3 := Lib.hid (show TS V v (x.cols.map (·.nm)) wr from by have h1 := HE1.out; rw [HN3.out, List.take_length] at h1; exact h1)
      obtain ⟨A1, c1, hv1, hr1⟩ := T3.out.form
      subst hv1
      have HR1 := Lib.hid hr1
      have HL1 := Lib.hid hlo
      have HZ1 := Lib.hid T3.out.nil0
      have HK1 := Lib.hid T3.out.caps
      obtain ⟨l1, hl1⟩ : ∃ n, (x.cols.map (·.nm)).length = n := ⟨_, rfl⟩
      have HLL := Lib.hid hl1
      rw [hl1]
      obtain ⟨U, hU⟩ : ∃ W, wr = W := ⟨_, rfl⟩
      rw [hU] at HR1 HL1 y3 ⊢
      clear hU HE1 T3 hr1 hl1 hj hlt tl tl2 hmx hlo
      go_wp2
      clear y3
      go_loopw [7, 5] (fun i u wr => ∃ (j : Nat) (v : Value), j ≤ f.n4 ∧ i = .int .i64 (j : Int) ∧ v = u ∧ Hid (TS U v ((x.cons.take j).map (·.nm)) wr)) (fun i _ _ => f.n4 + 1 - (intOf i).toNat)
      case atStart => exact ⟨0, _, Nat.zero_le _, rfl, rfl, Lib.hid (by simpa using ts_none (Below.refl U.heap.size U))⟩
      case round =>
        obtain ⟨j, v, hj, rfl, rfl, HE1⟩ := hrel
        have hmx : f.n4 ≤ 2 ^ 63 - 1 := by omega
        have hlo : Below V.heap.size V wr := Mem.on HL1.out HE1.out.low
        have y4 : wr.cell? ⟨w.heap.size, 4, none⟩ = some (.slice f.A4 f.n4 f.a4) := HX.out.at_ hlo 4
        by_cases hlt : j < f.n4
        · --<
          obtain ⟨c, hc⟩ := some_at HN4.out.symm hlt
          have tl : decide ((j : Int) < (f.n4 : Int)) = true := decide_eq_true (by omega)
          have tl2 : decide (j < f.n4) = true := decide_eq_true hlt
          obtain ⟨b1, o1, P, pn, pc, k0, o0, vk, vn, vs, ns, A0, m0, c0, Q, qn, qc, hA, hb1, hp, -, -, -⟩ := cn_at HX.out.all.cons.2.2.2 hc
          rw [hA] at y4
          have p0 : wr.cell? ⟨b1, o1 + j * 12, none⟩ = some (.string (txt c.nm)) := (hlo.cell (p := ⟨b1, o1 + j * 12, none⟩) hb1).trans (hp 0 _ rfl)
          obtain ⟨W2, hW2⟩ : ∃ W, wr.alloc (.cells #[.string (txt c.nm)] tS) = W := ⟨_, rfl⟩
          have HT2 := Lib.hid (show TS U v ((x.cons.take j).map (·.nm)) W2 from by rw [← hW2]; exact HE1.out.call (al (Below.refl _ _) _))
          have HR2 := Lib.hid (show Row W2 (wr.heap.size + 1) (some ⟨wr.heap.size, 0, none⟩) ([c.nm].map str) from by rw [← hW2]; exact row_new wr [c.nm])
          have HLN := Lib.hid (show ((x.cons.take j).map (·.nm)).length + 1 ≤ 100000 from by have h4 := HN4.out; simp only [List.length_map, List.length_take]; omega)
          have HSN := Lib.hid (show ∀ v' w', TS U v' (((x.cons.take j).map (·.nm)) ++ [c.nm]) w' → TS U v' ((x.cons.take (j + 1)).map (·.nm)) w' from fun v' w' g => by rw [take_map_on hc]; exact g)
          clear hlo hA hb1 hc hp
          go_wp2_with (at_builtin; refine wp_app HT2.out (.tmp 32) (.tmp 39) rfl rfl rfl rfl HR2.out rfl (fun e => by cases e) HLN.out ?_; intro v2 w2 g1 g2 g3 g4; have HR := Lib.hid (HSN.out _ _ g1); clear g1 g2 g3 g4)
          go_roundw
          case rel => exact ⟨j + 1, _, by omega, by go_num, rfl, HR⟩
          case measure => simp [intOf]; omega
          -->
        · have tl : decide ((j : Int) < (f.n4 : Int)) = false := decide_eq_false (by omega)
          have tl2 : decide (j < f.n4) = false := decide_eq_false hlt
          obtain rfl : j = f.n4 := by omega
          have T4 := Lib.hid (show TS U v (x.cons.map (·.nm)) wr from by have h1 := HE1.out; rw [HN4.out, List.take_length] at h1; exact h1)
          clear HE1 hj hlt tl tl2 hmx hlo
          go_wp2
          clear y4
          go_loopw [8, 5] (fun i u wr => ∃ (j : Nat) (v : Value), j ≤ f.n5 ∧ i = .int .i64 (j : Int) ∧ v = u ∧ Hid (TS U v (x.cons.map (·.nm) ++ (x.idx.take j).map (·.1)) wr)) (fun i _ _ => f.n5 + 1 - (intOf i).toNat)
          case atStart => exact ⟨0, _, Nat.zero_le _, rfl, rfl, Lib.hid (by rw [List.take_zero, List.map_nil, List.append_nil]; exact T4.out)⟩
          case round =>
            obtain ⟨j, v, hj, rfl, rfl, HE1⟩ := hrel
            have hmx : f.n5 ≤ 2 ^ 63 - 1 := by omega
            have hlo : Below V.heap.size V wr := Mem.on HL1.out HE1.out.low
            have y5 : wr.cell? ⟨w.heap.size, 5, none⟩ = some (.slice f.A5 f.n5 f.a5) := HX.out.at_ hlo 5
            by_cases hlt : j < f.n5
            · --<
              obtain ⟨c, hc⟩ := some_at HN5.out.symm hlt
              have tl : decide ((j : Int) < (f.n5 : Int)) = true := decide_eq_true (by omega)
              have tl2 : decide (j < f.n5) = true := decide_eq_true hlt
              obtain ⟨b1, o1, P, pn, pc, hA, hb1, g0, -, -⟩ := ix_at HX.out.all.idx.2.2.2 hc
              rw [hA] at y5
              have p0 : wr.cell? ⟨b1, o1 + j * 2, none⟩ = some (.string (txt c.1)) := (hlo.cell (p := ⟨b1, o1 + j * 2, none⟩) hb1).trans (g0)
              obtain ⟨W2, hW2⟩ : ∃ W, wr.alloc (.cells #[.string (txt c.1)] tS) = W := ⟨_, rfl⟩
              have HT2 := Lib.hid (show TS U v (x.cons.map (·.nm) ++ (x.idx.take j).map (·.1)) W2 from by rw [← hW2]; exact HE1.out.call (al (Below.refl _ _) _))
              have HR2 := Lib.hid (show Row W2 (wr.heap.size + 1) (some ⟨wr.heap.size, 0, none⟩) ([c.1].map str) from by rw [← hW2]; exact row_new wr [c.1])
              have HLN := Lib.hid (show (x.cons.map (·.nm) ++ (x.idx.take j).map (·.1)).length + 1 ≤ 100000 from by have h4 := HN4.out; simp only [List.length_append, List.length_map, List.length_take]; omega)
              have HSN := Lib.hid (show ∀ v' w', TS U v' ((x.cons.map (·.nm) ++ (x.idx.take j).map (·.1)) ++ [c.1]) w' → TS U v' (x.cons.map (·.nm) ++ (x.idx.take (j + 1)).map (·.1)) w' from fun v' w' g => by rw [take_map_on hc, ← List.append_assoc]; exact g)
              clear hlo hA hb1 hc g0
              go_wp2_with (at_builtin; refine wp_app HT2.out (.tmp 48) (.tmp 55) rfl rfl rfl rfl HR2.out rfl (fun e => by cases e) HLN.out ?_; intro v2 w2 g1 g2 g3 g4; have HR := Lib.hid (HSN.out _ _ g1); clear g1 g2 g3 g4)
              go_roundw
              case rel => exact ⟨j + 1, _, by omega, by go_num, rfl, HR⟩
              case measure => simp [intOf]; omega
              -->
            · have tl : decide ((j : Int) < (f.n5 : Int)) = false := decide_eq_false (by omega)
              have tl2 : decide (j < f.n5) = false := decide_eq_false hlt
              obtain rfl : j = f.n5 := by omega
              have T5 := Lib.hid (show TS U v (x.cons.map (·.nm) ++ x.idx.map (·.1)) wr from by have h1 := HE1.out; rw [HN5.out, List.take_length] at h1; exact h1)
              obtain ⟨B1, d1, hv1, hr2⟩ := T5.out.form
              have HR2 := Lib.hid hr2
              have HZ2 := Lib.hid (show B1 = none → d1 = 0 from by have h1 := T5.out; rw [hv1] at h1; exact h1.nil0)
              have HK2 := Lib.hid (show (x.cons.map (·.nm) ++ x.idx.map (·.1)).length ≤ d1 ∧ d1 ≤ maxLen from by have h1 := T5.out; rw [hv1] at h1; exact h1.caps)
              subst hv1
              clear hr2
              obtain ⟨l2, hl2⟩ : ∃ n, (x.cons.map (·.nm) ++ x.idx.map (·.1)).length = n := ⟨_, rfl⟩
              have HLM := Lib.hid hl2
              rw [hl2]
              clear hl2
              go_wp2
              go_ret2
              exact ⟨A1, c1, B1, d1, by rw [HLL.out, HLM.out]; rfl, row_on HR1.out T5.out.low, HR2.out, HZ1.out, HZ2.out, HE.out _ hlo, HK1.out, HK2.out⟩
theorem refNames_any (x : Tb) (f : Fb) (w : World) (hx : FbIn w w.heap.size f x) (h3 : f.n3 ≤ 10000) (h4 : f.n4 ≤ 10000) (h5 : f.n5 ≤ 10000) : Calls Tryd.prog 18 #[.agg #[.string (txt x.nm), .string (txt x.own), .int .i64 x.ver, .slice f.A3 f.n3 f.a3, .slice f.A4 f.n4 f.a4, .slice f.A5 f.n5 f.a5]] w (Txt2 (x.cols.map (·.nm)) (x.cons.map (·.nm) ++ x.idx.map (·.1)) w) :=
  (refNames2_any x f w hx h3 h4 h5).mono fun e w' ⟨A, c, B, d, g1, g2, g3, g4, g5, g6, _⟩ => ⟨A, c, B, d, g1, g2, g3, g4, g5, g6⟩
end Go.Proofs.YtcblddpapehdeaaDoor.Tk
