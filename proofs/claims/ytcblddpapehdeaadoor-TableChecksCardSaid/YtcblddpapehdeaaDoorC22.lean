/- The columns that a tree names, and its greatest parameter: the document's answers (registr -/
import Derived.BigQuiet
import Derived.Test.YtcblddpapehdeaaDoorC14
import Derived.Test.YtcblddpapehdeaaDoorC21
import Derived.Test.YtcblddpapehdeaaDoorC19
namespace Go.Proofs.YtcblddpapehdeaaDoor.Tk
open Go.RowKit Go.Proofs.YtcblddpapehdeaaDoor.Mem Go.Proofs.YtcblddpapehdeaaDoor.Ep Go.Proofs.YtcblddpapehdeaaDoor.Right
set_option linter.unusedVariables false
def kindE : Ex → Int
  | .mk k _ _ _ _ _ _ => k
def opE : Ex → Int
  | .mk _ o _ _ _ _ _ => o
def nameE : Ex → Bs
  | .mk _ _ _ _ _ nm _ => nm
mutual
theorem cols_parts : ∀ e : Ex, colsE e = (partsE e).flatMap fun p => ownN (kindE p) (nameE p)
  | .mk k o vk vn vs nm kids => by rw [colsE, partsE, List.flatMap_cons, colsL_parts kids]; rfl
theorem colsL_parts : ∀ l : List Ex, colsL l = (partsL l).flatMap fun p => ownN (kindE p) (nameE p)
  | [] => by rw [colsL, partsL]; rfl
  | x :: l => by rw [colsL, partsL, List.flatMap_append, cols_parts x, colsL_parts l]
end
mutual
theorem par_parts : ∀ (e : Ex) (n : Int), parE n e = (partsE e).foldl (fun m p => if kindE p = 3 then max m (opE p) else m) n
  | .mk k o vk vn vs nm kids, n => by rw [parE, partsE, List.foldl_cons, parL_parts kids]; rfl
theorem parL_parts : ∀ (l : List Ex) (n : Int), parL n l = (partsL l).foldl (fun m p => if kindE p = 3 then max m (opE p) else m) n
  | [], n => by rw [parL, partsL]; rfl
  | x :: l, n => by rw [parL, partsL, List.foldl_append, par_parts x, parL_parts l]
end
/-- The names of the first parts. -/
def nmsP (l : List Ex) : List Bs := (l.flatMap fun p => ownN (kindE p) (nameE p)).foldl addN []
theorem nmsP_on {l : List Ex} {j : Nat} {x : Ex} (h : l[j]? = some x) : nmsP (l.take (j + 1)) = (ownN (kindE x) (nameE x)).foldl addN (nmsP (l.take j)) := by
  unfold nmsP
  rw [take_flat_on h, List.foldl_append]
theorem nmsP_len (l : List Ex) : (nmsP l).length ≤ l.length := by
  unfold nmsP
  have h1 := fold_len (l.flatMap fun p => ownN (kindE p) (nameE p)) []
  have h2 : (l.flatMap fun p => ownN (kindE p) (nameE p)).length ≤ l.length := by
    clear h1
    induction l with
    | nil => simp
    | cons x l ih =>
      rw [List.flatMap_cons, List.length_append, List.length_cons]
      have : (ownN (kindE x) (nameE x)).length ≤ 1 := by unfold ownN; split <;> simp
      omega
  rw [List.length_nil, Nat.zero_add] at h1
  omega
theorem names_parts (e : Ex) : namesE e = nmsP (partsE e) := by unfold namesE nmsP; rw [cols_parts]
def parP (l : List Ex) : Int := l.foldl (fun m p => if kindE p = 3 then max m (opE p) else m) 0
theorem parP_on {l : List Ex} {j : Nat} {x : Ex} (h : l[j]? = some x) : parP (l.take (j + 1)) = (if kindE x = 3 then max (parP (l.take j)) (opE x) else parP (l.take j)) := by
  unfold parP
  rw [List.take_add_one, h, List.foldl_append]; rfl
set_option maxRecDepth 20000 in
set_option maxHeartbeats 4000000 in
theorem refExNames_any (e : Ex) (cs : List Value) (w : World) (h : ExAt w w.heap.size e cs) (hz : size e ≤ 1000) :
    Calls Tryd.prog 51 #[.agg cs.toArray] w (TxtD (namesE e) w) := by
  have hcs := h
  obtain ⟨k, o, vk, vn, vs, nm, kids⟩ := e
  obtain ⟨A, kn, c, rfl, -⟩ := ex_open h
  obtain ⟨e, he⟩ : ∃ e, Ex.mk k o vk vn vs nm kids = e := ⟨_, rfl⟩
  rw [he] at hcs hz ⊢
  clear he h
  obtain ⟨V, hV⟩ : ∃ W1, w.alloc (.cells #[.int .i64 k, .int .i64 o, .int .i64 vk, .int .i64 vn, .string (txt vs), .string (txt nm), .slice A kn c] tE) = W1 := ⟨_, rfl⟩
  have hb : Below w.heap.size w V := by rw [← hV]; exact al (Below.refl _ _) _
  have hbox : Cel V w.heap.size tE #[.int .i64 k, .int .i64 o, .int .i64 vk, .int .i64 vn, .string (txt vs), .string (txt nm), .slice A kn c] := by rw [← hV]; exact Cel.new w tE _ rfl
  have y0 : V.cell? ⟨w.heap.size, 0, none⟩ = some (.int .i64 k) := hbox.at_ 0
  have y1 : V.cell? ⟨w.heap.size, 1, none⟩ = some (.int .i64 o) := hbox.at_ 1
  have y2 : V.cell? ⟨w.heap.size, 2, none⟩ = some (.int .i64 vk) := hbox.at_ 2
  have y3 : V.cell? ⟨w.heap.size, 3, none⟩ = some (.int .i64 vn) := hbox.at_ 3
  have y4 : V.cell? ⟨w.heap.size, 4, none⟩ = some (.string (txt vs)) := hbox.at_ 4
  have y5 : V.cell? ⟨w.heap.size, 5, none⟩ = some (.string (txt nm)) := hbox.at_ 5
  have y6 : V.cell? ⟨w.heap.size, 6, none⟩ = some (.slice A kn c) := hbox.at_ 6
  have HP := Lib.hid (refParts_any w.heap.size e _ V (DtIn.below hcs hb) hb.size hz)
  have HB := Lib.hid hb
  have HNE := Lib.hid (names_parts e)
  obtain ⟨P, hP⟩ : ∃ P, partsE e = P := ⟨_, rfl⟩
  obtain ⟨n, hn⟩ : ∃ n, size e = n := ⟨_, rfl⟩
  have HN := Lib.hid (show P.length = n from by rw [← hP, ← hn]; exact parts_len e)
  rw [hP] at HP HNE
  rw [hn] at HP hz
  clear hcs hb hbox hP hn
  go_enter Tryd.func51, Tryd.ntmps51
  go_wp2_with (go_at_call 77; (with_reducible refine HP.out.mono ?_); rintro e' w1 ⟨A1, c1, rfl, ho1, hb1⟩; have HK := Lib.hid (OwnT.kids ho1); have HB1 := Lib.hid (Mem.on HB.out hb1); have HLT := Lib.hid ho1.lt; have HSZ := Lib.hid hb1.size; clear ho1 hb1)
  clear y0 y1 y2 y3 y4 y5 y6 hV
  go_loopw [5, 4, 6, 7] (fun i u _ _ wr => ∃ (j : Nat) (v : Value), j ≤ n ∧ i = .int .i64 (j : Int) ∧ v = u ∧ Hid (TS w1 v (nmsP (P.take j)) wr)) (fun i _ _ _ _ => n + 1 - (intOf i).toNat)
  case atStart => exact ⟨0, _, Nat.zero_le _, rfl, rfl, Lib.hid (ts_none (Below.refl _ _))⟩
  case round =>
    obtain ⟨j, v, hj, rfl, rfl, HT⟩ := hrel
    by_cases hlt : j < n
    · --<
      have tl : decide ((j : Int) < (n : Int)) = true := decide_eq_true (by omega)
      have tl2 : decide (j < n) = true := decide_eq_true hlt
      obtain ⟨y, hy⟩ := kid_some (l := P) (j := j) (by have := HN.out; omega)
      obtain ⟨k', o', vk', vn', vs', nm', ks', A', n', c', b, q, e', rfl, hbb, hn', c0, c1, c2, c3, c4, c5, c6, hin⟩ := kid_at HK.out hy
      have hb1 : b < w1.heap.size := by
        rcases hbb with h1 | h1
        · exact Nat.lt_of_lt_of_le h1 (Nat.le_trans HB.out.size HSZ.out)
        · exact (HLT.out b h1).2
      have d0 : wr.cell? ⟨b, q + j * 7, none⟩ = some (.int .i64 k') := (HT.out.low.cell (p := ⟨b, q + j * 7, none⟩) hb1).trans c0
      have d5 : wr.cell? ⟨b, q + j * 7 + 5, none⟩ = some (.string (txt nm')) := (HT.out.low.cell (p := ⟨b, q + j * 7 + 5, none⟩) hb1).trans c5
      obtain ⟨L, hL⟩ : ∃ L, nmsP (P.take j) = L := ⟨_, rfl⟩
      have hLl : L.length ≤ 1000 := by
        have h1 := nmsP_len (P.take j)
        rw [hL, List.length_take] at h1
        omega
      have hon := nmsP_on hy
      rw [hL] at hon HT
      rw [e'] at hon
      obtain ⟨A2, a2, hv2, hrow⟩ := HT.out.form
      obtain ⟨m, hm⟩ : ∃ m, L.length = m := ⟨_, rfl⟩
      rw [hm] at hv2 hLl
      subst hv2
      have HM := Lib.hid hm
      have HR := Lib.hid hrow
      have HON := Lib.hid (show nmsP (P.take (j + 1)) = (ownN k' nm').foldl addN L from hon)
      have HBL := Lib.hid hb1
      clear hin hn' e' hy hbb c0 c1 c2 c3 c4 c5 c6 hL hon hrow hm hb1
      by_cases hk2 : k' = 2
      · subst hk2
        have HAD := Lib.hid (show nmsP (P.take (j + 1)) = addN L nm' from HON.out)
        go_wp2
        go_loopw [7, 6] (fun i u wi => ∃ (a : Nat) (z : Bool), a ≤ m ∧ i = .int .i64 (a : Int) ∧ u = .bool z ∧ Hid (z = decide (nm' ∈ L.take a)) ∧ Hid (Below wr.heap.size wr wi)) (fun i _ _ => m + 1 - (intOf i).toNat)
        case atStart => exact ⟨0, false, Nat.zero_le _, rfl, rfl, Lib.hid (by simp), Lib.hid (Below.refl _ _)⟩
        case round =>
          obtain ⟨a, z, ha, rfl, rfl, HZ, HW⟩ := hrel
          have e0 : wr.cell? ⟨b, q + j * 7, none⟩ = some (.int .i64 2) := (HW.out.cell (p := ⟨b, q + j * 7, none⟩) (Nat.lt_of_lt_of_le HBL.out HT.out.low.size)).trans d0
          have e5 : wr.cell? ⟨b, q + j * 7 + 5, none⟩ = some (.string (txt nm')) := (HW.out.cell (p := ⟨b, q + j * 7 + 5, none⟩) (Nat.lt_of_lt_of_le HBL.out HT.out.low.size)).trans d5
          by_cases hla : a < m
          · have tla : decide ((a : Int) < (m : Int)) = true := decide_eq_true (by omega)
            have tla2 : decide (a < m) = true := decide_eq_true hla
            obtain ⟨s, hs⟩ := some_at HM.out hla
            obtain ⟨b2, o2, hA2, hb2, g0⟩ := HR.out a (str s) (by rw [List.getElem?_map, hs]; rfl)
            unfold str at g0
            subst hA2
            have g1 : wr.cell? ⟨b2, o2 + a, none⟩ = some (.string (txt s)) := (HW.out.cell (p := ⟨b2, o2 + a, none⟩) hb2).trans g0
            have HS := Lib.hid hs
            cases z with
            | true =>
              have HZ2 := Lib.hid (show true = decide (nm' ∈ L.take (a + 1)) from by
                rw [List.take_add_one]
                exact (decide_eq_true (List.mem_append_left _ (of_decide_eq_true HZ.out.symm))).symm)
              clear hs hb2 g0
              go_wp2
              go_quiet (fail)
              go_wp2
              go_roundw
              case rel => exact ⟨a + 1, true, by omega, by go_num, rfl, HZ2, Lib.hid (below_drewN HW.out _)⟩
              case measure => simp [intOf]; omega
            | false =>
              have t1 := txt_is s nm'
              obtain ⟨x, hx⟩ : ∃ x, decide (s = nm') = x := ⟨_, rfl⟩
              rw [hx] at t1
              have HZ2 := Lib.hid (show x = decide (nm' ∈ L.take (a + 1)) from by
                rw [← hx, List.take_add_one, hs]
                have := of_decide_eq_false HZ.out.symm
                simp only [Option.toList_some, List.mem_append, List.mem_singleton, this, false_or]
                exact decide_eq_decide.2 eq_comm)
              clear hs hb2 g0 hx
              go_wp2
              go_quiet (fail)
              go_wp2
              go_roundw
              case rel => exact ⟨a + 1, x, by omega, by go_num, rfl, HZ2, Lib.hid (below_drewN HW.out _)⟩
              case measure => simp [intOf]; omega
          · have tla : decide ((a : Int) < (m : Int)) = false := decide_eq_false (by omega)
            have tla2 : decide (a < m) = false := decide_eq_false hla
            have hz2 := HZ.out
            rw [List.take_of_length_le (by have := HM.out; omega)] at hz2
            cases z with
            | true =>
              have HT2 := Lib.hid (show TS w1 (.slice A2 m a2) (nmsP (P.take (j + 1))) wr from by
                rw [HAD.out]
                unfold addN
                rw [if_pos (of_decide_eq_true hz2.symm)]
                exact HT.out.call HW.out)
              clear hz2
              go_wp2
              go_roundw
              case rel => exact ⟨j + 1, _, by omega, by go_num, rfl, HT2⟩
              case measure => simp [intOf]; omega
            | false =>
              have HSN := Lib.hid (show ∀ v' w', TS w1 v' (L ++ [nm']) w' → TS w1 v' (nmsP (P.take (j + 1))) w' from fun v' w' g => by
                rw [HAD.out]
                unfold addN
                rw [if_neg (of_decide_eq_false hz2.symm)]
                exact g)
              have HTW := Lib.hid (HT.out.call HW.out)
              obtain ⟨W2, hW2⟩ : ∃ W, World.alloc wr (.cells #[.string (txt nm')] tS) = W := ⟨_, rfl⟩
              have HT2 := Lib.hid (show TS w1 (.slice A2 m a2) L W2 from by rw [← hW2]; exact HTW.out.call (al (Below.refl _ _) _))
              have HR2 := Lib.hid (show Row W2 (wr.heap.size + 1) (some ⟨wr.heap.size, 0, none⟩) ([nm'].map str) from by rw [← hW2]; exact row_new wr [nm'])
              clear hz2
              go_wp2_with (at_builtin; refine wp_app HT2.out (.tmp 43) (.tmp 49) rfl rfl rfl rfl HR2.out rfl (fun e => by cases e) (by have := HM.out; omega) ?_; intro v2 w2 g1 g2 g3 g4; have HR3 := Lib.hid (HSN.out _ _ g1); clear g1 g2 g3 g4)
              go_roundw
              case rel => exact ⟨j + 1, _, by omega, by go_num, rfl, HR3⟩
              case measure => simp [intOf]; omega
      · have HAD := Lib.hid (show nmsP (P.take (j + 1)) = L from by rw [HON.out]; unfold ownN; rw [if_neg hk2]; rfl)
        have tk : (k' != 2) = true := bne_yes hk2
        go_wp2
        go_loopw [7, 6] (fun i u wi => ∃ (a : Nat), a ≤ m ∧ i = .int .i64 (a : Int) ∧ u = .bool true ∧ Hid (Below wr.heap.size wr wi)) (fun i _ _ => m + 1 - (intOf i).toNat)
        case atStart => exact ⟨0, Nat.zero_le _, rfl, rfl, Lib.hid (Below.refl _ _)⟩
        case round =>
          obtain ⟨a, ha, rfl, rfl, HW⟩ := hrel
          by_cases hla : a < m
          · have tla : decide ((a : Int) < (m : Int)) = true := decide_eq_true (by omega)
            have tla2 : decide (a < m) = true := decide_eq_true hla
            go_wp2
            go_quiet (fail)
            go_wp2
            go_roundw
            case rel => exact ⟨a + 1, by omega, by go_num, rfl, Lib.hid (below_drewN HW.out _)⟩
            case measure => simp [intOf]; omega
          · have tla : decide ((a : Int) < (m : Int)) = false := decide_eq_false (by omega)
            have tla2 : decide (a < m) = false := decide_eq_false hla
            have HT2 := Lib.hid (show TS w1 (.slice A2 m a2) (nmsP (P.take (j + 1))) wr from by rw [HAD.out]; exact HT.out.call HW.out)
            go_wp2
            go_roundw
            case rel => exact ⟨j + 1, _, by omega, by go_num, rfl, HT2⟩
            case measure => simp [intOf]; omega
      -->
    · have tl : decide ((j : Int) < (n : Int)) = false := decide_eq_false (by omega)
      have tl2 : decide (j < n) = false := decide_eq_false hlt
      have h1 := HT.out
      rw [List.take_of_length_le (by have := HN.out; omega), ← HNE.out] at h1
      have HF := Lib.hid h1
      clear h1
      go_wp2
      go_ret
      exact TxtD.of HF.out HB1.out
set_option maxRecDepth 20000 in
set_option maxHeartbeats 4000000 in
theorem refParams_any (e : Ex) (cs : List Value) (w : World) (h : ExAt w w.heap.size e cs) (hz : size e ≤ 1000) :
    Calls Tryd.prog 36 #[.agg cs.toArray] w fun x w' => x = .returned (.int .i64 (parE 0 e)) ∧ Below w.heap.size w w' := by
  have hcs := h
  obtain ⟨k, o, vk, vn, vs, nm, kids⟩ := e
  obtain ⟨A, kn, c, rfl, -⟩ := ex_open h
  obtain ⟨e, he⟩ : ∃ e, Ex.mk k o vk vn vs nm kids = e := ⟨_, rfl⟩
  rw [he] at hcs hz ⊢
  clear he h
  obtain ⟨V, hV⟩ : ∃ W1, w.alloc (.cells #[.int .i64 k, .int .i64 o, .int .i64 vk, .int .i64 vn, .string (txt vs), .string (txt nm), .slice A kn c] tE) = W1 := ⟨_, rfl⟩
  have hb : Below w.heap.size w V := by rw [← hV]; exact al (Below.refl _ _) _
  have hbox : Cel V w.heap.size tE #[.int .i64 k, .int .i64 o, .int .i64 vk, .int .i64 vn, .string (txt vs), .string (txt nm), .slice A kn c] := by rw [← hV]; exact Cel.new w tE _ rfl
  have y0 : V.cell? ⟨w.heap.size, 0, none⟩ = some (.int .i64 k) := hbox.at_ 0
  have y1 : V.cell? ⟨w.heap.size, 1, none⟩ = some (.int .i64 o) := hbox.at_ 1
  have y2 : V.cell? ⟨w.heap.size, 2, none⟩ = some (.int .i64 vk) := hbox.at_ 2
  have y3 : V.cell? ⟨w.heap.size, 3, none⟩ = some (.int .i64 vn) := hbox.at_ 3
  have y4 : V.cell? ⟨w.heap.size, 4, none⟩ = some (.string (txt vs)) := hbox.at_ 4
  have y5 : V.cell? ⟨w.heap.size, 5, none⟩ = some (.string (txt nm)) := hbox.at_ 5
  have y6 : V.cell? ⟨w.heap.size, 6, none⟩ = some (.slice A kn c) := hbox.at_ 6
  have HP := Lib.hid (refParts_any w.heap.size e _ V (DtIn.below hcs hb) hb.size hz)
  have HB := Lib.hid hb
  have HNE := Lib.hid (show parE 0 e = parP (partsE e) from par_parts e 0)
  obtain ⟨P, hP⟩ : ∃ P, partsE e = P := ⟨_, rfl⟩
  obtain ⟨n, hn⟩ : ∃ n, size e = n := ⟨_, rfl⟩
  have HN := Lib.hid (show P.length = n from by rw [← hP, ← hn]; exact parts_len e)
  rw [hP] at HP HNE
  rw [hn] at HP hz
  clear hcs hb hbox hP hn
  go_enter Tryd.func36, Tryd.ntmps36
  go_wp2_with (go_at_call 77; (with_reducible refine HP.out.mono ?_); rintro e' w1 ⟨A1, c1, rfl, ho1, hb1⟩; have HK := Lib.hid (OwnT.kids ho1); have HB1 := Lib.hid (Mem.on HB.out hb1); have HLT := Lib.hid ho1.lt; have HSZ := Lib.hid hb1.size; clear ho1 hb1)
  clear y0 y1 y2 y3 y4 y5 y6 hV
  go_loopw [5, 4] (fun i u wr => ∃ (j : Nat) (z : Int), j ≤ n ∧ i = .int .i64 (j : Int) ∧ u = .int .i64 z ∧ Hid (z = parP (P.take j)) ∧ Hid (Below w1.heap.size w1 wr)) (fun i _ _ => n + 1 - (intOf i).toNat)
  case atStart => exact ⟨0, 0, Nat.zero_le _, rfl, rfl, Lib.hid rfl, Lib.hid (Below.refl _ _)⟩
  case round =>
    obtain ⟨j, z, hj, rfl, rfl, HZ, HT⟩ := hrel
    by_cases hlt : j < n
    · --<
      have tl : decide ((j : Int) < (n : Int)) = true := decide_eq_true (by omega)
      have tl2 : decide (j < n) = true := decide_eq_true hlt
      obtain ⟨y, hy⟩ := kid_some (l := P) (j := j) (by have := HN.out; omega)
      obtain ⟨k', o', vk', vn', vs', nm', ks', A', n', c', b, q, e', rfl, hbb, hn', c0, c1, c2, c3, c4, c5, c6, hin⟩ := kid_at HK.out hy
      have hb1 : b < w1.heap.size := by
        rcases hbb with h1 | h1
        · exact Nat.lt_of_lt_of_le h1 (Nat.le_trans HB.out.size HSZ.out)
        · exact (HLT.out b h1).2
      have d0 : wr.cell? ⟨b, q + j * 7, none⟩ = some (.int .i64 k') := (HT.out.cell (p := ⟨b, q + j * 7, none⟩) hb1).trans c0
      have d1 : wr.cell? ⟨b, q + j * 7 + 1, none⟩ = some (.int .i64 o') := (HT.out.cell (p := ⟨b, q + j * 7 + 1, none⟩) hb1).trans c1
      have hon := parP_on hy
      rw [e', ← HZ.out] at hon
      have HON := Lib.hid (show parP (P.take (j + 1)) = (if k' = 3 then max z o' else z) from hon)
      clear hin hn' e' hy hbb c0 c1 c2 c3 c4 c5 c6 hon hb1
      by_cases hk3 : k' = 3
      · subst hk3
        by_cases hg : z < o'
        · have tg : decide (z < o') = true := decide_eq_true hg
          have HF := Lib.hid (show o' = parP (P.take (j + 1)) from by rw [HON.out, if_pos rfl]; omega)
          clear hg
          go_wp2
          go_roundw
          case rel => exact ⟨j + 1, o', by omega, by go_num, rfl, HF, HT⟩
          case measure => simp [intOf]; omega
        · have tg : decide (z < o') = false := decide_eq_false hg
          have HF := Lib.hid (show z = parP (P.take (j + 1)) from by rw [HON.out, if_pos rfl]; omega)
          clear hg
          go_wp2
          go_roundw
          case rel => exact ⟨j + 1, z, by omega, by go_num, rfl, HF, HT⟩
          case measure => simp [intOf]; omega
      · have tk : (k' == 3) = false := beq_no hk3
        have HF := Lib.hid (show z = parP (P.take (j + 1)) from by rw [HON.out, if_neg hk3])
        go_wp2
        go_roundw
        case rel => exact ⟨j + 1, z, by omega, by go_num, rfl, HF, HT⟩
        case measure => simp [intOf]; omega
      -->
    · have tl : decide ((j : Int) < (n : Int)) = false := decide_eq_false (by omega)
      have tl2 : decide (j < n) = false := decide_eq_false hlt
      have h1 := HZ.out
      rw [List.take_of_length_le (by have := HN.out; omega), ← HNE.out] at h1
      have HF := Lib.hid h1
      clear h1
      go_wp2
      go_ret
      exact ⟨by rw [← HF.out]; rfl, HB1.out.trans (HT.out.mono HB1.out.size)⟩
end Go.Proofs.YtcblddpapehdeaaDoor.Tk
