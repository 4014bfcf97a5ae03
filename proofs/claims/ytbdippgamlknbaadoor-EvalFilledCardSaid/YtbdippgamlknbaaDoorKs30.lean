/- A tree is gone through by one function that is handed another one: how high it is. How high a tree is (Height): the program's answer. The greatest parameter of a tree: the program's call (expr.Params). -/
import Derived.Lib.MinMax
import Derived.Test.YtbdippgamlknbaaDoorKs27
import Derived.Test.YtbdippgamlknbaaDoorKs29
namespace Go.Proofs.YtbdippgamlknbaaDoor.Ep
open Go.RowKit Go.Proofs.YtbdippgamlknbaaDoor.Mem Go.Proofs.YtbdippgamlknbaaDoor.Right
set_option linter.unusedVariables false
set_option maxHeartbeats 1000000 in
theorem seen_any (k o vk vn : Int) (vs nm : ByteArray) (A : Option Addr) (n c d m p M : Nat) (w : World) (h : Cel w p tI #[.int .i64 (m : Int)]) (hM : max m d = M) :
    Calls Tryd.prog 100 #[exV k o vk vn vs nm A n c, .int .i64 (d : Int), .pointer (some ⟨p, 0, none⟩)] w fun e w' => e = .returned (.bool true) ∧ Cel w' p tI #[.int .i64 (M : Int)] ∧ Oth p w w' := by
  have h1 := h.alloc (.cells #[.int .i64 k, .int .i64 o, .int .i64 vk, .int .i64 vn, .string vs, .string nm, .slice A n c] tE)
  have c0 : (w.alloc (.cells #[.int .i64 k, .int .i64 o, .int .i64 vk, .int .i64 vn, .string vs, .string nm, .slice A n c] 38)).cell? ⟨p, 0, none⟩ = some (.int .i64 (m : Int)) := h1.at_ 0
  have f0 : (w.alloc (.cells #[.int .i64 k, .int .i64 o, .int .i64 vk, .int .i64 vn, .string vs, .string nm, .slice A n c] 38)).frozen? ⟨p, 0, none⟩ = false := h1.open_ 0
  have hm : max (m : Int) (d : Int) = (M : Int) := by omega
  have H := Lib.hid h1
  have HL := Lib.hid h.lt
  clear h1 h hM
  go_enter Tryd.func100, Tryd.ntmps100
  go_wp2
  go_ret
  exact ⟨rfl, H.out.set 0 _, ((Oth.refl p w).alloc (Nat.le_of_lt HL.out) _).set 0 _⟩
set_option maxHeartbeats 4000000 in
theorem walkH_any (p : Nat) : ∀ (e : Ex) (cs : List Value) (d m : Nat) (w : World), ExAt w p e cs → Cel w p tI #[.int .i64 (m : Int)] → d + size e ≤ 1000000 → m ≤ 1000000 →
    Calls Tryd.prog 94 #[.agg cs.toArray, .int .i64 (d : Int), .func (.func 100) #[] #[.pointer (some ⟨p, 0, none⟩)]] w fun x w' => x = .returned (.bool true) ∧ Cel w' p tI #[.int .i64 ((max m (d + hgt e - 1) : Nat) : Int)] ∧ Oth p w w' := by
  refine Ex.byKids fun k o vk vn vs nm kids ih cs d m w h hc hs hm => ?_
  obtain ⟨A, kn, c, rfl, hkn, -, -, -, hk⟩ := ex_open h
  rw [size] at hs
  rw [hgt_mk]
  have hpw := hc.lt
  have hb0 := (Oth.refl p w).alloc (Nat.le_of_lt hpw) (.cells #[.int .i64 k, .int .i64 o, .int .i64 vk, .int .i64 vn, .string (txt vs), .string (txt nm), .slice A kn c] tE)
  have hd : d ≤ 1000000 := by omega
  obtain ⟨M, hM⟩ : ∃ M, max m d = M := ⟨_, rfl⟩
  have HV := Lib.hid (seen_any k o vk vn (txt vs) (txt nm) A kn c d m p M (w.alloc (.cells #[.int .i64 k, .int .i64 o, .int .i64 vk, .int .i64 vn, .string (txt vs), .string (txt nm), .slice A kn c] tE)) (hc.alloc _) hM)
  have hbox : Cel (w.alloc (.cells #[.int .i64 k, .int .i64 o, .int .i64 vk, .int .i64 vn, .string (txt vs), .string (txt nm), .slice A kn c] tE)) w.heap.size tE #[.int .i64 k, .int .i64 o, .int .i64 vk, .int .i64 vn, .string (txt vs), .string (txt nm), .slice A kn c] := Cel.new w tE _ rfl
  have HX := Lib.hid (fun W (hW : Oth p (w.alloc (.cells #[.int .i64 k, .int .i64 o, .int .i64 vk, .int .i64 vn, .string (txt vs), .string (txt nm), .slice A kn c] tE)) W) => (show W.cell? ⟨w.heap.size, 6, none⟩ = some (.slice A kn c) from (hW.cel (by omega) hbox).at_ 6))
  have HB0 := Lib.hid hb0
  have HK := Lib.hid hk
  have HN := Lib.hid hkn
  have HSZ := Lib.hid hs
  have HM := Lib.hid hM
  have hkm : kn ≤ 1000000 := by have := sizeL_len kids; omega
  have hM6 : M ≤ 1000000 := by omega
  clear hk h hkn hs hb0 hpw hM hc hbox
  go_enter Tryd.func94, Tryd.ntmps94
  go_wp2_with (go_at_call 100; (with_reducible refine HV.out.mono ?_); rintro e' w1 ⟨rfl, hc1, hb1⟩; have HC1 := Lib.hid hc1; have x6 := HX.out _ hb1; have HB1 := Lib.hid (HB0.out.trans hb1); clear hc1 hb1)
  clear x6
  go_loopw [17] (fun i wr => ∃ (j x : Nat), j ≤ kn ∧ i = .int .i64 (j : Int) ∧ Hid (x = max M (d + hgtL (kids.take j))) ∧ Hid (Cel wr p tI #[.int .i64 (x : Int)]) ∧ Hid (Oth p w wr)) (fun i _ => kn + 1 - (intOf i).toNat)
  case atStart => exact ⟨0, M, Nat.zero_le _, rfl, Lib.hid (by rw [List.take_zero, hgtL]; have := HM.out; omega), HC1, HB1⟩
  case round =>
    obtain ⟨j, x, hj, rfl, HL, HC, HB⟩ := hrel
    by_cases hlt : j < kn
    · obtain ⟨y, hy⟩ := kid_some (l := kids) (j := j) (by have := HN.out; omega)
      obtain ⟨k', o', vk', vn', vs', nm', ks', A', n', c', b, q, e, rfl, hb, hn', c0, c1, c2, c3, c4, c5, c6, hin⟩ := kid_at HK.out hy
      have hsy : size y ≤ sizeL kids := sizeL_mem (kid_mem hy)
      have hgy : hgtL kids ≤ sizeL kids := hgtL_size kids
      have hgt' : hgtL (kids.take j) ≤ hgtL kids := by
        have := hgtL_app (kids.take j) (kids.drop j)
        rw [List.take_append_drop] at this
        omega
      have hx6 : x ≤ 1000000 := by have := HL.out; have := HSZ.out; omega
      obtain ⟨x2, hx2⟩ : ∃ x2, max x (d + 1 + hgt y - 1) = x2 := ⟨_, rfl⟩
      have HI := Lib.hid (fun W (hW : Oth p w W) (hWc : Cel W p tI #[.int .i64 (x : Int)]) => (show Calls Tryd.prog 94 #[exV k' o' vk' vn' (txt vs') (txt nm') A' n' c', .int .i64 ((d : Int) + 1), .func (.func 100) #[] #[.pointer (some ⟨p, 0, none⟩)]] W fun x w' => x = .returned (.bool true) ∧ Cel w' p tI #[.int .i64 (x2 : Int)] ∧ Oth p W w' from by
        rw [← hx2]
        exact ih y (kid_mem hy) _ (d + 1) x W (ExAt.below hin hW.1) hWc (by have := HSZ.out; omega) hx6))
      have HT := Lib.hid (show x2 = max M (d + hgtL (kids.take (j + 1))) by rw [List.take_add_one, hy, ← hx2, HL.out]; have := hgtL_snoc (kids.take j) y; have := hgt_pos y; simp only [Option.toList_some]; omega)
      have c0 := (HB.out.1.cell hb).trans c0
      have c1 := (HB.out.1.cell hb).trans c1
      have c2 := (HB.out.1.cell hb).trans c2
      have c3 := (HB.out.1.cell hb).trans c3
      have c4 := (HB.out.1.cell hb).trans c4
      have c5 := (HB.out.1.cell hb).trans c5
      have c6 := (HB.out.1.cell hb).trans c6
      have hpr := HC.out.lt
      have HBk := Lib.hid (HB.out.alloc (Nat.le_of_lt hpr) (.cells #[.int .i64 k', .int .i64 o', .int .i64 vk', .int .i64 vn', .string (txt vs'), .string (txt nm'), .slice A' n' c'] tE))
      have HCk := Lib.hid (HC.out.alloc (.cells #[.int .i64 k', .int .i64 o', .int .i64 vk', .int .i64 vn', .string (txt vs'), .string (txt nm'), .slice A' n' c'] tE))
      have tl : decide ((j : Int) < (kn : Int)) = true := decide_eq_true (by omega)
      clear hin hn' e hy hx2 hsy hgy hgt' hpr
      go_wp2_with (go_at_call 94; (with_reducible refine (HI.out _ HBk.out HCk.out).mono ?_); rintro e' w2 ⟨rfl, hc2, hb2⟩; have HC2 := Lib.hid hc2; have HB2 := Lib.hid (HBk.out.trans hb2); clear hc2 hb2)
      go_roundw
      case rel => exact ⟨j + 1, x2, by omega, by go_num, HT, HC2, HB2⟩
      case measure => simp [intOf]; omega
    · have tl : decide ((j : Int) < (kn : Int)) = false := decide_eq_false (by omega)
      have hd2 : kids.take j = kids := List.take_of_length_le (by have := HN.out; omega)
      rw [hd2] at HL
      have hx3 := Lib.hid (show max m (d + (hgtL kids + 1) - 1) = x by have := HL.out; have := HM.out; omega)
      go_wp2
      go_ret
      exact ⟨rfl, by rw [hx3.out]; exact HC.out, HB.out⟩
end Go.Proofs.YtbdippgamlknbaaDoor.Ep
namespace Go.Proofs.YtbdippgamlknbaaDoor.Ep
open Go.RowKit Go.Proofs.YtbdippgamlknbaaDoor.Mem Go.Proofs.YtbdippgamlknbaaDoor.Right
set_option linter.unusedVariables false
set_option maxHeartbeats 2000000 in
theorem height_any (e : Ex) (cs : List Value) (w : World) (h : ExAt w w.heap.size e cs) (hz : size e ≤ 100000) :
    Calls Tryd.prog 57 #[.agg cs.toArray] w fun x w' => x = .returned (.int .i64 (hgt e : Int)) ∧ Below w.heap.size w w' := by
  have hcs := h
  obtain ⟨k, o, vk, vn, vs, nm, kids⟩ := e
  obtain ⟨A, kn, c, rfl, -⟩ := ex_open h
  obtain ⟨e, he⟩ : ∃ e, Ex.mk k o vk vn vs nm kids = e := ⟨_, rfl⟩
  rw [he] at hcs hz ⊢
  clear he h
  have hb : Below w.heap.size w ((w.alloc (.cells #[.int .i64 k, .int .i64 o, .int .i64 vk, .int .i64 vn, .string (txt vs), .string (txt nm), .slice A kn c] tE)).alloc (.cells #[.int .i64 0] tI)) := al (al (Below.refl _ _) _) _
  have hp : Cel ((w.alloc (.cells #[.int .i64 k, .int .i64 o, .int .i64 vk, .int .i64 vn, .string (txt vs), .string (txt nm), .slice A kn c] tE)).alloc (.cells #[.int .i64 0] tI)) (w.heap.size + 1) tI #[.int .i64 ((0 : Nat) : Int)] := Cel.new _ tI _ (by simp)
  have hx := walkH_any (w.heap.size + 1) e _ 1 0 _ (ExIn.to (fun b hb' => by omega) (fun q hq' => hb.cell hq') e _ hcs) hp (by omega) (by omega)
  rw [show max 0 (1 + hgt e - 1) = hgt e by omega] at hx
  rw [show ((1 : Nat) : Int) = 1 from rfl] at hx
  have HX := Lib.hid hx
  have HB := Lib.hid hb
  clear hcs hb hp hx hz
  go_enter Tryd.func57, Tryd.ntmps57
  go_wp2_with (go_at_call 94; (with_reducible refine HX.out.mono ?_); rintro e' w2 ⟨rfl, hc2, hb2⟩; have z0 := hc2.at_ 0; have HB2 := Lib.hid (HB.out.trans (hb2.1.mono (by omega))); clear hc2 hb2)
  go_ret
  exact ⟨rfl, HB2.out⟩
end Go.Proofs.YtbdippgamlknbaaDoor.Ep
namespace Go.Proofs.YtbdippgamlknbaaDoor.Tk
open Go.RowKit Go.Proofs.YtbdippgamlknbaaDoor.Mem Go.Proofs.YtbdippgamlknbaaDoor.Ep Go.Proofs.YtbdippgamlknbaaDoor.Right
set_option linter.unusedVariables false
set_option maxHeartbeats 1000000 in
theorem seenP_any (k o vk vn m : Int) (vs nm : ByteArray) (A : Option Addr) (n c d p : Nat) (w : World) (h : Cel w p Ep.tI #[.int .i64 m]) :
    Calls Tryd.prog 97 #[exV k o vk vn vs nm A n c, .int .i64 (d : Int), .pointer (some ⟨p, 0, none⟩)] w fun e w' => e = .returned (.bool true) ∧ Cel w' p Ep.tI #[.int .i64 (if k = 3 then max m o else m)] ∧ Oth p w w' := by
  have h1 := h.alloc (.cells #[.int .i64 k, .int .i64 o, .int .i64 vk, .int .i64 vn, .string vs, .string nm, .slice A n c] tE)
  have c0 : (w.alloc (.cells #[.int .i64 k, .int .i64 o, .int .i64 vk, .int .i64 vn, .string vs, .string nm, .slice A n c] 38)).cell? ⟨p, 0, none⟩ = some (.int .i64 m) := h1.at_ 0
  have f0 : (w.alloc (.cells #[.int .i64 k, .int .i64 o, .int .i64 vk, .int .i64 vn, .string vs, .string nm, .slice A n c] 38)).frozen? ⟨p, 0, none⟩ = false := h1.open_ 0
  have H := Lib.hid h1
  have HL := Lib.hid h.lt
  clear h1 h
  by_cases hk : k = 3
  · subst hk
    rw [if_pos rfl]
    obtain ⟨M, hM⟩ : ∃ M, max m o = M := ⟨_, rfl⟩
    rw [hM]
    go_enter Tryd.func97, Tryd.ntmps97
    go_wp2
    go_ret
    exact ⟨rfl, H.out.set 0 _, ((Oth.refl p w).alloc (Nat.le_of_lt HL.out) _).set 0 _⟩
  · rw [if_neg hk]
    go_enter Tryd.func97, Tryd.ntmps97
    go_wp2
    go_ret
    exact ⟨rfl, H.out, (Oth.refl p w).alloc (Nat.le_of_lt HL.out) _⟩
set_option maxHeartbeats 4000000 in
theorem walkP_any (p : Nat) : ∀ (e : Ex) (cs : List Value) (d : Nat) (m : Int) (w : World), ExAt w p e cs → Cel w p Ep.tI #[.int .i64 m] → d + size e ≤ 1000000 →
    Calls Tryd.prog 94 #[.agg cs.toArray, .int .i64 (d : Int), .func (.func 97) #[] #[.pointer (some ⟨p, 0, none⟩)]] w fun x w' => x = .returned (.bool true) ∧ Cel w' p Ep.tI #[.int .i64 (parE m e)] ∧ Oth p w w' := by
  refine Ex.byKids fun k o vk vn vs nm kids ih cs d m w h hc hs => ?_
  obtain ⟨A, kn, c, rfl, hkn, -, -, -, hk⟩ := ex_open h
  rw [size] at hs
  rw [parE_mk]
  have hpw := hc.lt
  have hb0 := (Oth.refl p w).alloc (Nat.le_of_lt hpw) (.cells #[.int .i64 k, .int .i64 o, .int .i64 vk, .int .i64 vn, .string (txt vs), .string (txt nm), .slice A kn c] tE)
  have hd : d ≤ 1000000 := by omega
  obtain ⟨M, hM⟩ : ∃ M, (if k = 3 then max m o else m) = M := ⟨_, rfl⟩
  have HV := Lib.hid (hM ▸ seenP_any k o vk vn m (txt vs) (txt nm) A kn c d p (w.alloc (.cells #[.int .i64 k, .int .i64 o, .int .i64 vk, .int .i64 vn, .string (txt vs), .string (txt nm), .slice A kn c] tE)) (hc.alloc _))
  rw [hM]
  have hbox : Cel (w.alloc (.cells #[.int .i64 k, .int .i64 o, .int .i64 vk, .int .i64 vn, .string (txt vs), .string (txt nm), .slice A kn c] tE)) w.heap.size tE #[.int .i64 k, .int .i64 o, .int .i64 vk, .int .i64 vn, .string (txt vs), .string (txt nm), .slice A kn c] := Cel.new w tE _ rfl
  have HX := Lib.hid (fun W (hW : Oth p (w.alloc (.cells #[.int .i64 k, .int .i64 o, .int .i64 vk, .int .i64 vn, .string (txt vs), .string (txt nm), .slice A kn c] tE)) W) => (show W.cell? ⟨w.heap.size, 6, none⟩ = some (.slice A kn c) from (hW.cel (by omega) hbox).at_ 6))
  have HB0 := Lib.hid hb0
  have HK := Lib.hid hk
  have HN := Lib.hid hkn
  have HSZ := Lib.hid hs
  have hkm : kn ≤ 1000000 := by have := sizeL_len kids; omega
  clear hk h hkn hs hb0 hpw hM hc hbox
  go_enter Tryd.func94, Tryd.ntmps94
  go_wp2_with (go_at_call 97; (with_reducible refine HV.out.mono ?_); rintro e' w1 ⟨rfl, hc1, hb1⟩; have HC1 := Lib.hid hc1; have x6 := HX.out _ hb1; have HB1 := Lib.hid (HB0.out.trans hb1); clear hc1 hb1)
  clear x6
  go_loopw [17] (fun i wr => ∃ (j : Nat) (x : Int), j ≤ kn ∧ i = .int .i64 (j : Int) ∧ Hid (x = parL M (kids.take j)) ∧ Hid (Cel wr p Ep.tI #[.int .i64 x]) ∧ Hid (Oth p w wr)) (fun i _ => kn + 1 - (intOf i).toNat)
  case atStart => exact ⟨0, M, Nat.zero_le _, rfl, Lib.hid (by rw [List.take_zero, parL]), HC1, HB1⟩
  case round =>
    obtain ⟨j, x, hj, rfl, HL, HC, HB⟩ := hrel
    by_cases hlt : j < kn
    · obtain ⟨y, hy⟩ := kid_some (l := kids) (j := j) (by have := HN.out; omega)
      obtain ⟨k', o', vk', vn', vs', nm', ks', A', n', c', b, q, e, rfl, hb, hn', c0, c1, c2, c3, c4, c5, c6, hin⟩ := kid_at HK.out hy
      have hsy : size y ≤ sizeL kids := sizeL_mem (kid_mem hy)
      obtain ⟨x2, hx2⟩ : ∃ x2, parE x y = x2 := ⟨_, rfl⟩
      have HI := Lib.hid (fun W (hW : Oth p w W) (hWc : Cel W p Ep.tI #[.int .i64 x]) => (show Calls Tryd.prog 94 #[exV k' o' vk' vn' (txt vs') (txt nm') A' n' c', .int .i64 ((d : Int) + 1), .func (.func 97) #[] #[.pointer (some ⟨p, 0, none⟩)]] W fun x w' => x = .returned (.bool true) ∧ Cel w' p Ep.tI #[.int .i64 x2] ∧ Oth p W w' from by
        rw [← hx2]
        exact ih y (kid_mem hy) _ (d + 1) x W (ExAt.below hin hW.1) hWc (by have := HSZ.out; omega)))
      have HT := Lib.hid (show x2 = parL M (kids.take (j + 1)) by rw [← hx2, HL.out]; exact take_par hy M)
      have c0 := (HB.out.1.cell hb).trans c0
      have c1 := (HB.out.1.cell hb).trans c1
      have c2 := (HB.out.1.cell hb).trans c2
      have c3 := (HB.out.1.cell hb).trans c3
      have c4 := (HB.out.1.cell hb).trans c4
      have c5 := (HB.out.1.cell hb).trans c5
      have c6 := (HB.out.1.cell hb).trans c6
      have hpr := HC.out.lt
      have HBk := Lib.hid (HB.out.alloc (Nat.le_of_lt hpr) (.cells #[.int .i64 k', .int .i64 o', .int .i64 vk', .int .i64 vn', .string (txt vs'), .string (txt nm'), .slice A' n' c'] tE))
      have HCk := Lib.hid (HC.out.alloc (.cells #[.int .i64 k', .int .i64 o', .int .i64 vk', .int .i64 vn', .string (txt vs'), .string (txt nm'), .slice A' n' c'] tE))
      have tl : decide ((j : Int) < (kn : Int)) = true := decide_eq_true (by omega)
      clear hin hn' e hy hx2 hsy hpr
      go_wp2_with (go_at_call 94; (with_reducible refine (HI.out _ HBk.out HCk.out).mono ?_); rintro e' w2 ⟨rfl, hc2, hb2⟩; have HC2 := Lib.hid hc2; have HB2 := Lib.hid (HBk.out.trans hb2); clear hc2 hb2)
      go_roundw
      case rel => exact ⟨j + 1, x2, by omega, by go_num, HT, HC2, HB2⟩
      case measure => simp [intOf]; omega
    · have tl : decide ((j : Int) < (kn : Int)) = false := decide_eq_false (by omega)
      have hd2 : kids.take j = kids := List.take_of_length_le (by have := HN.out; omega)
      rw [hd2] at HL
      go_wp2
      go_ret
      exact ⟨rfl, by rw [← HL.out]; exact HC.out, HB.out⟩
set_option maxHeartbeats 2000000 in
theorem params_any (e : Ex) (cs : List Value) (w : World) (h : ExAt w w.heap.size e cs) (hz : size e ≤ 100000) :
    Calls Tryd.prog 55 #[.agg cs.toArray] w fun x w' => x = .returned (.int .i64 (parE 0 e)) ∧ Below w.heap.size w w' := by
  have hcs := h
  obtain ⟨k, o, vk, vn, vs, nm, kids⟩ := e
  obtain ⟨A, kn, c, rfl, -⟩ := ex_open h
  obtain ⟨e, he⟩ : ∃ e, Ex.mk k o vk vn vs nm kids = e := ⟨_, rfl⟩
  rw [he] at hcs hz ⊢
  clear he h
  have hb : Below w.heap.size w ((w.alloc (.cells #[.int .i64 k, .int .i64 o, .int .i64 vk, .int .i64 vn, .string (txt vs), .string (txt nm), .slice A kn c] tE)).alloc (.cells #[.int .i64 0] Ep.tI)) := al (al (Below.refl _ _) _) _
  have hp : Cel ((w.alloc (.cells #[.int .i64 k, .int .i64 o, .int .i64 vk, .int .i64 vn, .string (txt vs), .string (txt nm), .slice A kn c] tE)).alloc (.cells #[.int .i64 0] Ep.tI)) (w.heap.size + 1) Ep.tI #[.int .i64 0] := Cel.new _ Ep.tI _ (by simp)
  have hx := walkP_any (w.heap.size + 1) e _ 1 0 _ (ExIn.to (fun b hb' => by omega) (fun q hq' => hb.cell hq') e _ hcs) hp (by omega)
  rw [show ((1 : Nat) : Int) = 1 from rfl] at hx
  have HX := Lib.hid hx
  have HB := Lib.hid hb
  clear hcs hb hp hx hz
  go_enter Tryd.func55, Tryd.ntmps55
  go_wp2_with (go_at_call 94; (with_reducible refine HX.out.mono ?_); rintro e' w2 ⟨rfl, hc2, hb2⟩; have z0 := hc2.at_ 0; have HB2 := Lib.hid (HB.out.trans (hb2.1.mono (by omega))); clear hc2 hb2)
  go_ret
  exact ⟨rfl, HB2.out⟩
end Go.Proofs.YtbdippgamlknbaaDoor.Tk
