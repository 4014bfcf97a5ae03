/- The columns that a tree names: the walk (expr.walk, expr.Names). -/
import Derived.Test.YtcblddpapehdeaaDoorM23
namespace Go.Proofs.YtcblddpapehdeaaDoor.Tk
open Go.RowKit Go.Proofs.YtcblddpapehdeaaDoor.Mem Go.Proofs.YtcblddpapehdeaaDoor.Ep Go.Proofs.YtcblddpapehdeaaDoor.Right
set_option linter.unusedVariables false
mutual
theorem cols_size : ∀ e : Ex, (colsE e).length ≤ size e
  | .mk k o vk vn vs nm kids => by
    have h := colsL_size kids
    rw [colsE, size, List.length_append]
    unfold ownN
    split <;> simp <;> omega
theorem colsL_size : ∀ l : List Ex, (colsL l).length ≤ sizeL l
  | [] => by rw [colsL]; simp
  | x :: l => by
    have h1 := cols_size x
    have h2 := colsL_size l
    rw [colsL, sizeL, List.length_append]
    omega
end
theorem names_len (e : Ex) : (namesE e).length ≤ size e := by
  have h1 := fold_len (colsE e) []
  have h2 := cols_size e
  unfold namesE
  simp at h1
  omega
set_option maxHeartbeats 4000000 in
theorem walkN_any (B pn pm g : Nat) : ∀ (e : Ex) (cs : List Value) (d : Nat) (L : List Bs) (w : World), ExAt w B e cs → NmS B pn pm g L w → Lim e → d + size e ≤ 1000000 → L.length + size e ≤ 10000 →
    Calls Tryd.prog 98 #[.agg cs.toArray, .int .i64 (d : Int), .func (.func 126) #[] #[.pointer (some ⟨pm, 0, none⟩), .pointer (some ⟨pn, 0, none⟩)]] w fun x w' => x = .returned (.bool true) ∧ NmS B pn pm g ((colsE e).foldl addN L) w' ∧ NFr B w w' := by
  refine Ex.byKids fun k o vk vn vs nm kids ih cs d L w h hc hlim hs hm => ?_
  obtain ⟨A, kn, c, rfl, hkn, -, -, -, hk⟩ := ex_open h
  obtain ⟨hvs, hnm, hlk⟩ := (lim_mk _ _ _ _ _ _ _).1 hlim
  rw [size] at hs hm
  rw [colsE_mk, List.foldl_append]
  have hsz := hc.size
  obtain ⟨V, hV⟩ : ∃ W1, w.alloc (.cells #[.int .i64 k, .int .i64 o, .int .i64 vk, .int .i64 vn, .string (txt vs), .string (txt nm), .slice A kn c] tE) = W1 := ⟨_, rfl⟩
  have hbv : Below w.heap.size w V := by rw [← hV]; exact al (Below.refl _ _) _
  have hbox : Cel V w.heap.size tE #[.int .i64 k, .int .i64 o, .int .i64 vk, .int .i64 vn, .string (txt vs), .string (txt nm), .slice A kn c] := by rw [← hV]; exact Cel.new w tE _ rfl
  obtain ⟨M, hM⟩ : ∃ M, (ownN k nm).foldl addN L = M := ⟨_, rfl⟩
  have hMl : M.length ≤ L.length + 1 := by
    have h1 := fold_len (ownN k nm) L
    rw [hM] at h1
    unfold ownN at h1
    split at h1 <;> simp at h1 <;> omega
  have HV := Lib.hid (hM ▸ seenN_any B pn pm g L k o vk vn (txt vs) nm A kn c d V (hc.below hbv) (by omega) hnm)
  rw [hM]
  have HX := Lib.hid (fun W (hW : NFr B V W) => (show W.cell? ⟨w.heap.size, 6, none⟩ = some (.slice A kn c) from (hW.cel hbox).at_ 6))
  have HB0 := Lib.hid (NFr.of hbv hsz)
  have HK := Lib.hid hk
  have HN := Lib.hid hkn
  have HSZ := Lib.hid (show d + (1 + sizeL kids) ≤ 1000000 ∧ L.length + (1 + sizeL kids) ≤ 10000 ∧ M.length ≤ L.length + 1 from ⟨by omega, by omega, hMl⟩)
  have HLK := Lib.hid hlk
  have y0 : V.cell? ⟨w.heap.size, 0, none⟩ = some (.int .i64 k) := hbox.at_ 0
  have y1 : V.cell? ⟨w.heap.size, 1, none⟩ = some (.int .i64 o) := hbox.at_ 1
  have y2 : V.cell? ⟨w.heap.size, 2, none⟩ = some (.int .i64 vk) := hbox.at_ 2
  have y3 : V.cell? ⟨w.heap.size, 3, none⟩ = some (.int .i64 vn) := hbox.at_ 3
  have y4 : V.cell? ⟨w.heap.size, 4, none⟩ = some (.string (txt vs)) := hbox.at_ 4
  have y5 : V.cell? ⟨w.heap.size, 5, none⟩ = some (.string (txt nm)) := hbox.at_ 5
  have y6 : V.cell? ⟨w.heap.size, 6, none⟩ = some (.slice A kn c) := hbox.at_ 6
  have hkm : kn ≤ 1000000 := by have := sizeL_len kids; omega
  have hd : d ≤ 1000000 := by omega
  clear hk h hkn hs hm hbv hM hc hbox hMl hsz hlim hvs hnm hlk
  go_enter Tryd.func98, Tryd.ntmps98
  go_wp2_with (go_at_call 126; (with_reducible refine HV.out.mono ?_); rintro e' w1 ⟨rfl, hc1, hb1⟩; have HC1 := Lib.hid hc1; have x6 := HX.out _ hb1; have HB1 := Lib.hid (HB0.out.trans hb1); have HX1 := Lib.hid (fun W (hW : NFr B w1 W) => HX.out W (hb1.trans hW)); clear hc1 hb1)
  clear x6 hV y0 y1 y2 y3 y4 y5 y6
  go_loopw [17] (fun i wr => ∃ (j : Nat), j ≤ kn ∧ i = .int .i64 (j : Int) ∧ Hid (NmS B pn pm g ((colsL (kids.take j)).foldl addN M) wr) ∧ Hid (NFr B w wr)) (fun i _ => kn + 1 - (intOf i).toNat)
  case atStart => exact ⟨0, Nat.zero_le _, rfl, Lib.hid (by rw [List.take_zero, colsL]; exact HC1.out), HB1⟩
  case round =>
    obtain ⟨j, hj, rfl, HC, HB⟩ := hrel
    by_cases hlt : j < kn
    · obtain ⟨y, hy⟩ := kid_some (l := kids) (j := j) (by have := HN.out; omega)
      obtain ⟨k', o', vk', vn', vs', nm', ks', A', n', c', b, q, e, rfl, hb, hn', c0, c1, c2, c3, c4, c5, c6, hin⟩ := kid_at HK.out hy
      have hsy : size y ≤ sizeL kids := sizeL_mem (kid_mem hy)
      have hsj : (colsL (kids.take j)).length + size y ≤ sizeL kids := by
        have h1 := colsL_size (kids.take j)
        have h2 : sizeL kids = sizeL (kids.take j) + sizeL (kids.drop j) := by
          have : ∀ a b : List Ex, sizeL (a ++ b) = sizeL a + sizeL b := fun a b => by
            induction a with
            | nil => rw [sizeL]; simp
            | cons x a ih => rw [List.cons_append, sizeL, sizeL, ih]; omega
          rw [← this, List.take_append_drop]
        rw [drop_kid hy, sizeL] at h2
        omega
      obtain ⟨L1, hL1⟩ : ∃ L1, (colsL (kids.take j)).foldl addN M = L1 := ⟨_, rfl⟩
      obtain ⟨L2, hL2⟩ : ∃ L2, (colsE y).foldl addN L1 = L2 := ⟨_, rfl⟩
      have hl1 : L1.length ≤ M.length + (colsL (kids.take j)).length := hL1 ▸ fold_len _ _
      have HI := Lib.hid (fun W (hW : NFr B w W) (hWc : NmS B pn pm g L1 W) => (show Calls Tryd.prog 98 #[exV k' o' vk' vn' (txt vs') (txt nm') A' n' c', .int .i64 ((d : Int) + 1), .func (.func 126) #[] #[.pointer (some ⟨pm, 0, none⟩), .pointer (some ⟨pn, 0, none⟩)]] W fun x w' => x = .returned (.bool true) ∧ NmS B pn pm g L2 w' ∧ NFr B W w' from by
        rw [← hL2]
        exact ih y (kid_mem hy) _ (d + 1) L1 W (ExAt.below hin hW.low) hWc (HLK.out y (kid_mem hy)) (by have := HSZ.out.1; omega) (by have := HSZ.out.2; omega)))
      have HT := Lib.hid (show L2 = (colsL (kids.take (j + 1))).foldl addN M by rw [← hL2, ← hL1]; exact take_cols hy M)
      rw [hL1] at HC
      have c0 := (HB.out.low.cell hb).trans c0
      have c1 := (HB.out.low.cell hb).trans c1
      have c2 := (HB.out.low.cell hb).trans c2
      have c3 := (HB.out.low.cell hb).trans c3
      have c4 := (HB.out.low.cell hb).trans c4
      have c5 := (HB.out.low.cell hb).trans c5
      have c6 := (HB.out.low.cell hb).trans c6
      have hbk := al (Below.refl wr.heap.size wr) (.cells #[.int .i64 k', .int .i64 o', .int .i64 vk', .int .i64 vn', .string (txt vs'), .string (txt nm'), .slice A' n' c'] tE)
      have HBk := Lib.hid (HB.out.trans (NFr.of hbk HC.out.size))
      have HCk := Lib.hid (HC.out.below hbk)
      have tl : decide ((j : Int) < (kn : Int)) = true := decide_eq_true (by omega)
      clear hin hn' e hy hL2 hL1 hsy hsj hl1 hbk
      go_wp2_with (go_at_call 98; (with_reducible refine (HI.out _ HBk.out HCk.out).mono ?_); rintro e' w2 ⟨rfl, hc2, hb2⟩; have HC2 := Lib.hid hc2; have HB2 := Lib.hid (HBk.out.trans hb2); clear hc2 hb2)
      go_roundw
      case rel => exact ⟨j + 1, by omega, by go_num, by rw [← HT.out]; exact HC2, HB2⟩
      case measure => simp [intOf]; omega
    · have tl : decide ((j : Int) < (kn : Int)) = false := decide_eq_false (by omega)
      have hd2 : kids.take j = kids := List.take_of_length_le (by have := HN.out; omega)
      rw [hd2] at HC
      go_wp2
      go_ret
      exact ⟨rfl, HC.out, HB.out⟩
theorem setD_nil : SetD [] = .map [] := rfl
set_option maxHeartbeats 2000000 in
theorem names_any (e : Ex) (cs : List Value) (w : World) (h : ExAt w w.heap.size e cs) (hl : Lim e) (hz : size e ≤ 1000) :
    Calls Tryd.prog 93 #[.agg cs.toArray] w (TxtD (namesE e) w) := by
  have hcs := h
  obtain ⟨k, o, vk, vn, vs, nm, kids⟩ := e
  obtain ⟨A, kn, c, rfl, -⟩ := ex_open h
  obtain ⟨e, he⟩ : ∃ e, Ex.mk k o vk vn vs nm kids = e := ⟨_, rfl⟩
  rw [he] at hcs hz hl ⊢
  clear he h
  obtain ⟨W4, hW4⟩ : ∃ W4, ((((w.alloc (.cells #[.int .i64 k, .int .i64 o, .int .i64 vk, .int .i64 vn, .string (txt vs), .string (txt nm), .slice A kn c] tE)).alloc (.cells #[.slice none 0 0] tSl)).alloc (.map #[] 0)).alloc (.cells #[.map (some (w.heap.size + 1 + 1))] tSet)) = W4 := ⟨_, rfl⟩
  have hb : Below w.heap.size w W4 := by rw [← hW4]; exact al (al (al (al (Below.refl _ _) _) _) _) _
  have hS : NmS w.heap.size (w.heap.size + 1) (w.heap.size + 1 + 1 + 1) (w.heap.size + 1 + 1) [] W4 := by
    rw [← hW4]
    refine ⟨Cel.new _ _ _ (by simp), ⟨.slice none 0 0, ((Cel.new _ _ _ (by simp)).alloc _).alloc _, ⟨rfl, .inl ⟨rfl, rfl⟩⟩⟩, ?_, by omega, by omega, by omega⟩
    refine World.ownsMap.alloc ?_ _
    have hm := World.ownsMap_made (R := unitElem (H := Unit)) ((w.alloc (.cells #[.int .i64 k, .int .i64 o, .int .i64 vk, .int .i64 vn, .string (txt vs), .string (txt nm), .slice A kn c] tE)).alloc (.cells #[.slice none 0 0] tSl)) Tryd.prog tS
    simpa [setD_nil] using hm
  have hx := walkN_any w.heap.size (w.heap.size + 1) (w.heap.size + 1 + 1 + 1) (w.heap.size + 1 + 1) e _ 1 [] W4 (ExIn.to (fun b hb' => hb') (fun q hq' => hb.cell hq') e _ hcs) hS hl (by omega) (by simp; omega)
  rw [show ((1 : Nat) : Int) = 1 from rfl] at hx
  have hbox : Cel W4 w.heap.size tE #[.int .i64 k, .int .i64 o, .int .i64 vk, .int .i64 vn, .string (txt vs), .string (txt nm), .slice A kn c] := by rw [← hW4]; exact (((Cel.new w tE _ rfl).alloc _).alloc _).alloc _
  have y0 : W4.cell? ⟨w.heap.size, 0, none⟩ = some (.int .i64 k) := hbox.at_ 0
  have y1 : W4.cell? ⟨w.heap.size, 1, none⟩ = some (.int .i64 o) := hbox.at_ 1
  have y2 : W4.cell? ⟨w.heap.size, 2, none⟩ = some (.int .i64 vk) := hbox.at_ 2
  have y3 : W4.cell? ⟨w.heap.size, 3, none⟩ = some (.int .i64 vn) := hbox.at_ 3
  have y4 : W4.cell? ⟨w.heap.size, 4, none⟩ = some (.string (txt vs)) := hbox.at_ 4
  have y5 : W4.cell? ⟨w.heap.size, 5, none⟩ = some (.string (txt nm)) := hbox.at_ 5
  have y6 : W4.cell? ⟨w.heap.size, 6, none⟩ = some (.slice A kn c) := hbox.at_ 6
  have HX := Lib.hid hx
  have HB := Lib.hid hb
  have hmm := @run_makeMap Tryd.prog
  clear hcs hb hS hx hz hl hbox
  go_enter Tryd.func93, Tryd.ntmps93
  go_wp2_with (go_at_call 98; (with_reducible refine HX.out.mono ?_); rintro e' w2 ⟨rfl, hc2, hb2⟩; obtain ⟨v2, hv2, hr2⟩ := hc2.r; obtain ⟨A2, a2, rfl⟩ := own_slice hr2; have z0 := hv2.at_ 0; have HR2 := Lib.hid hr2; have HB2 := Lib.hid (HB.out.trans hb2.low); clear hc2 hb2 hv2 hr2)
  go_ret
  exact ⟨A2, a2, rfl, HR2.out, HB2.out⟩
end Go.Proofs.YtcblddpapehdeaaDoor.Tk
