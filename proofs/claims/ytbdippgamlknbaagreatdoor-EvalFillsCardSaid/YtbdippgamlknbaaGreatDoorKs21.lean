/- A tree is gone through by one function that is handed another one: may it be (Check), and  May a tree be (Check), and how high it is (Height): the program's answers. An operation of a region that draws its order, which only reads. Values in the place of parameters: it comes to what it did with the parameters; no paramet Lists of data that a call makes: a slice of the call's own, whose elements lead elsewhere; -/
import Derived.Test.YtbdippgamlknbaaGreatDoorKs20
import Derived.WalkKit
import Derived.ProofKit
import Derived.BigFrame
import Derived.BigQuiet
import Derived.Deep.QuietTactic
import Derived.Test.YtbdippgamlknbaaGreatDoorProg
import Derived.Test.YtbdippgamlknbaaGreatDoorKs02
import Derived.Test.YtbdippgamlknbaaGreatDoorKs05
import Derived.Maps.AppendAt
import Derived.OwnWalk
import Derived.Laws.AppendOwnNone
import Derived.Test.YtbdippgamlknbaaGreatDoorKs04
import Derived.Test.YtbdippgamlknbaaGreatDoorKs03
import Derived.Test.YtbdippgamlknbaaGreatDoorKs06
namespace Go.Proofs.YtbdippgamlknbaaGreatDoor.Ep
open Go.RowKit Go.Proofs.YtbdippgamlknbaaGreatDoor.Mem Go.Proofs.YtbdippgamlknbaaGreatDoor.Right Go.Proofs.YtbdippgamlknbaaGreatDoor.Lx
set_option linter.unusedVariables false
abbrev tBo : TypeId := 4
set_option maxHeartbeats 4000000 in
theorem seenC_any (k o vk vn : Int) (vs nm : List UInt8) (A : Option Addr) (n c d p q : Nat) (r slots : Bool) (w : World) (hs : Signs w) (hp : Cel w p tBo #[.bool r]) (hq : w.cell? ⟨q, 0, none⟩ = some (.bool slots)) (hqp : q < p) (hvs : vs.length ≤ 1000000) (hnm : nm.length ≤ 1000000) :
    Calls Tryz.prog 68 #[exV k o vk vn (txt vs) (txt nm) A n c, .int .i64 (d : Int), .pointer (some ⟨p, 0, none⟩), .pointer (some ⟨q, 0, none⟩)] w fun e w' => e = .returned (.bool (decide ((d : Int) ≤ 8))) ∧ Cel w' p tBo #[.bool (r && headB slots k o vk vn vs nm n)] ∧ Oth p w w' := by
  have hlt := hp.lt
  have h1 := hp.alloc (.cells #[.int .i64 k, .int .i64 o, .int .i64 vk, .int .i64 vn, .string (txt vs), .string (txt nm), .slice A n c] tE)
  have hb1 := al (Below.refl w.heap.size w) (.cells #[.int .i64 k, .int .i64 o, .int .i64 vk, .int .i64 vn, .string (txt vs), .string (txt nm), .slice A n c] tE)
  have c0 : (w.alloc (.cells #[.int .i64 k, .int .i64 o, .int .i64 vk, .int .i64 vn, .string (txt vs), .string (txt nm), .slice A n c] 26)).cell? ⟨p, 0, none⟩ = some (.bool r) := h1.at_ 0
  have HB1 := Lib.hid hb1
  have HS1 := Lib.hid (hs.below hb1 hs.lt)
  have H := Lib.hid h1
  have HL := Lib.hid hlt
  cases r with
  | false =>
    have f0 : (w.alloc (.cells #[.int .i64 k, .int .i64 o, .int .i64 vk, .int .i64 vn, .string (txt vs), .string (txt nm), .slice A n c] 26)).frozen? ⟨p, 0, none⟩ = false := h1.open_ 0
    clear h1 hb1 hp hs hq hlt
    go_enter Tryz.func68, Tryz.ntmps68
    go_wp2
    go_ret
    exact ⟨rfl, H.out.set 0 _, ((Oth.refl p w).alloc (Nat.le_of_lt HL.out) _).set 0 _⟩
  | true =>
    obtain ⟨x, hx⟩ : ∃ x, headB slots k o vk vn vs nm n = x := ⟨_, rfl⟩
    have HR := Lib.hid (show Calls Tryz.prog 69 #[exV k o vk vn (txt vs) (txt nm) A n c, .bool slots] (w.alloc (.cells #[.int .i64 k, .int .i64 o, .int .i64 vk, .int .i64 vn, .string (txt vs), .string (txt nm), .slice A n c] tE)) fun e w' => e = .returned (.bool x) ∧ Below (w.alloc (.cells #[.int .i64 k, .int .i64 o, .int .i64 vk, .int .i64 vn, .string (txt vs), .string (txt nm), .slice A n c] tE)).heap.size (w.alloc (.cells #[.int .i64 k, .int .i64 o, .int .i64 vk, .int .i64 vn, .string (txt vs), .string (txt nm), .slice A n c] tE)) w' from by
      rw [← hx]; exact isRight_any k o vk vn vs nm A n c slots _ HS1.out hvs hnm)
    have hqw : q < w.heap.size := by omega
    have d0 : (w.alloc (.cells #[.int .i64 k, .int .i64 o, .int .i64 vk, .int .i64 vn, .string (txt vs), .string (txt nm), .slice A n c] 26)).cell? ⟨q, 0, none⟩ = some (.bool slots) := (hb1.cell hqw).trans hq
    rw [hx]
    clear h1 hb1 hp hs hq hlt hx
    go_enter Tryz.func68, Tryz.ntmps68
    go_wp2_with (go_at_call 69; (with_reducible refine HR.out.mono ?_); rintro e w2 ⟨rfl, hb2⟩; have H2 := Lib.hid (H.out.below hb2); have f2 := H2.out.open_ 0; have e2 := H2.out.at_ 0; have HB2 := Lib.hid hb2; clear hb2)
    go_ret
    exact ⟨rfl, H2.out.set 0 _, (((Oth.refl p w).alloc (Nat.le_of_lt HL.out) _).trans (Oth.of HB2.out (Nat.le_of_lt H.out.lt))).set 0 _⟩
set_option maxHeartbeats 4000000 in
theorem walkC_any (p q : Nat) (slots : Bool) (hqp : q < p) (hgp : 0 < p) : ∀ (e : Ex) (cs : List Value) (d : Nat) (r : Bool) (w : World), ExAt w p e cs → Cel w p tBo #[.bool r] → w.cell? ⟨q, 0, none⟩ = some (.bool slots) → Signs w → Lim e → d ≤ 9 →
    Calls Tryz.prog 67 #[.agg cs.toArray, .int .i64 (d : Int), .func (.func 68) #[] #[.pointer (some ⟨p, 0, none⟩), .pointer (some ⟨q, 0, none⟩)]] w fun x w' => ∃ r', x = .returned (.bool (decide (d + hgt e ≤ 9))) ∧ Cel w' p tBo #[.bool r'] ∧ (d + hgt e ≤ 9 → r' = (r && rightB slots e)) ∧ Oth p w w' := by
  refine Ex.byKids fun k o vk vn vs nm kids ih cs d r w h hc hq hsg hlim hd => ?_
  obtain ⟨A, kn, c, rfl, hkn, hcl, hcap, -, hk⟩ := ex_open h
  obtain ⟨hvs, hnm, hlk⟩ := (lim_mk _ _ _ _ _ _ _).1 hlim
  rw [hgt_mk, rightB_mk]
  have hkm : kn ≤ maxLen := by rw [hkn]; exact Nat.le_trans hcl hcap
  unfold maxLen at hkm
  have hpw := hc.lt
  have hb0 := (Oth.refl p w).alloc (Nat.le_of_lt hpw) (.cells #[.int .i64 k, .int .i64 o, .int .i64 vk, .int .i64 vn, .string (txt vs), .string (txt nm), .slice A kn c] tE)
  have hx0 : (w.alloc (.cells #[.int .i64 k, .int .i64 o, .int .i64 vk, .int .i64 vn, .string (txt vs), .string (txt nm), .slice A kn c] tE)).cell? ⟨q, 0, none⟩ = some (.bool slots) := (hb0.1.cell (p := ⟨q, 0, none⟩) hqp).trans hq
  obtain ⟨r1, hr1⟩ : ∃ r1, (r && headB slots k o vk vn vs nm kn) = r1 := ⟨_, rfl⟩
  have hbox : Cel (w.alloc (.cells #[.int .i64 k, .int .i64 o, .int .i64 vk, .int .i64 vn, .string (txt vs), .string (txt nm), .slice A kn c] tE)) w.heap.size tE #[.int .i64 k, .int .i64 o, .int .i64 vk, .int .i64 vn, .string (txt vs), .string (txt nm), .slice A kn c] := Cel.new w tE _ rfl
  have HX := Lib.hid (fun W (hW : Oth p (w.alloc (.cells #[.int .i64 k, .int .i64 o, .int .i64 vk, .int .i64 vn, .string (txt vs), .string (txt nm), .slice A kn c] tE)) W) => (show W.cell? ⟨w.heap.size, 6, none⟩ = some (.slice A kn c) from (hW.cel (by omega) hbox).at_ 6))
  have hv := seenC_any k o vk vn vs nm A kn c d p q r slots (w.alloc (.cells #[.int .i64 k, .int .i64 o, .int .i64 vk, .int .i64 vn, .string (txt vs), .string (txt nm), .slice A kn c] tE)) (hsg.below hb0.1 hgp) (hc.alloc _) hx0 hqp hvs hnm
  rw [hr1] at hv
  have HB0 := Lib.hid hb0
  have HK := Lib.hid hk
  have HN := Lib.hid hkn
  have HR1 := Lib.hid hr1
  have HQ := Lib.hid hq
  have HSG := Lib.hid hsg
  have HLK := Lib.hid hlk
  by_cases h8 : d ≤ 8
  · have t8 : decide ((d : Int) ≤ 8) = true := decide_eq_true (by omega)
    rw [t8] at hv
    have HV := Lib.hid hv
    clear hk h hkn hb0 hpw hc hbox hv hx0 hq hsg hlim hlk hr1 hcl hcap hvs hnm
    go_enter Tryz.func67, Tryz.ntmps67
    go_wp2_with (go_at_call 68; (with_reducible refine HV.out.mono ?_); rintro e' w1 ⟨rfl, hc1, hb1⟩; have HC1 := Lib.hid hc1; have x6 := HX.out _ hb1; have HB1 := Lib.hid (HB0.out.trans hb1); clear hc1 hb1)
    clear x6
    go_loopw [17] (fun i wr => ∃ (j : Nat) (x : Bool), j ≤ kn ∧ i = .int .i64 (j : Int) ∧ Hid (d + hgtL (kids.take j) ≤ 8 ∧ x = (r1 && rightL slots (kids.take j))) ∧ Hid (Cel wr p tBo #[.bool x]) ∧ Hid (Oth p w wr)) (fun i _ => kn + 1 - (intOf i).toNat)
    case atStart => exact ⟨0, r1, Nat.zero_le _, rfl, Lib.hid ⟨by rw [List.take_zero, hgtL]; omega, by rw [List.take_zero, rightL, Bool.and_true]⟩, HC1, HB1⟩
    case round =>
      obtain ⟨j, x, hj, rfl, HL, HC, HB⟩ := hrel
      by_cases hlt : j < kn
      · obtain ⟨y, hy⟩ := kid_some (l := kids) (j := j) (by have := HN.out; omega)
        obtain ⟨k', o', vk', vn', vs', nm', ks', A', n', c', b, z, e, rfl, hb, hn', c0, c1, c2, c3, c4, c5, c6, hin⟩ := kid_at HK.out hy
        have hgy := hgtL_mem (kid_mem hy)
        obtain ⟨lw, hlw⟩ : ∃ lw, decide (d + 1 + hgt y ≤ 9) = lw := ⟨_, rfl⟩
        have HI := Lib.hid (fun W (hW : Oth p w W) (hWc : Cel W p tBo #[.bool x]) => (show Calls Tryz.prog 67 #[exV k' o' vk' vn' (txt vs') (txt nm') A' n' c', .int .i64 ((d : Int) + 1), .func (.func 68) #[] #[.pointer (some ⟨p, 0, none⟩), .pointer (some ⟨q, 0, none⟩)]] W fun u w' => ∃ r', u = .returned (.bool lw) ∧ Cel w' p tBo #[.bool r'] ∧ (d + 1 + hgt y ≤ 9 → r' = (x && rightB slots y)) ∧ Oth p W w' from by
          rw [← hlw]
          exact ih y (kid_mem hy) _ (d + 1) x W (ExAt.below hin hW.1) hWc ((hW.1.cell (p := ⟨q, 0, none⟩) hqp).trans HQ.out) (HSG.out.below hW.1 hgp) (HLK.out y (kid_mem hy)) (by omega)))
        have HT := Lib.hid (show hgtL (kids.take (j + 1)) = max (hgtL (kids.take j)) (hgt y) ∧ rightL slots (kids.take (j + 1)) = (rightL slots (kids.take j) && rightB slots y) by rw [List.take_add_one, hy]; exact ⟨hgtL_snoc _ _, rightL_snoc _ _⟩)
        have c0 := (HB.out.1.cell hb).trans c0
        have c1 := (HB.out.1.cell hb).trans c1
        have c2 := (HB.out.1.cell hb).trans c2
        have c3 := (HB.out.1.cell hb).trans c3
        have c4 := (HB.out.1.cell hb).trans c4
        have c5 := (HB.out.1.cell hb).trans c5
        have c6 := (HB.out.1.cell hb).trans c6
        have hpr := HC.out.lt
        have HBk := Lib.hid (HB.out.alloc (Nat.le_of_lt hpr) (.cells #[.int .i64 k', .int .i64 o', .int .i64 vk', .int .i64 vn', .string (txt vs'), .string (txt nm'), .slice A' n' c'] tE))
        have HCk := Lib.hid (HC.out.alloc (.cells #[.int .i64 k', .int .i64 o', .int .i64 vk', .int .i64 vn', .string (txt vs'), .string (txt nm'), .slice A' n' c'] tE))
        have tl : decide ((j : Int) < (kn : Int)) = true := decide_eq_true (by omega)
        cases lw with
        | true =>
          have hl9 : d + 1 + hgt y ≤ 9 := of_decide_eq_true hlw
          have HL9 := Lib.hid hl9
          clear hin hn' e hy hlw hpr hgy hl9
          go_wp2_with (go_at_call 67; (with_reducible refine (HI.out _ HBk.out HCk.out).mono ?_); rintro e' w2 ⟨r', rfl, hc2, hr', hb2⟩; have HC2 := Lib.hid hc2; have HB2 := Lib.hid (HBk.out.trans hb2); have HR' := Lib.hid (hr' HL9.out); clear hc2 hb2 hr')
          go_roundw
          case rel => exact ⟨j + 1, r', by omega, by go_num, Lib.hid ⟨by have := HT.out.1; have := HL.out.1; have := HL9.out; omega, by rw [HR'.out, HL.out.2, HT.out.2, Bool.and_assoc]⟩, HC2, HB2⟩
          case measure => simp [intOf]; omega
        | false =>
          have hl9 : ¬ d + 1 + hgt y ≤ 9 := of_decide_eq_false hlw
          have HF := Lib.hid (show ¬ d + (hgtL kids + 1) ≤ 9 by omega)
          clear hin hn' e hy hlw hpr hgy hl9
          go_wp2_with (go_at_call 67; (with_reducible refine (HI.out _ HBk.out HCk.out).mono ?_); rintro e' w2 ⟨r', rfl, hc2, hr', hb2⟩; have HC2 := Lib.hid hc2; have HB2 := Lib.hid (HBk.out.trans hb2); clear hc2 hb2 hr')
          go_ret
          exact ⟨r', by rw [decide_eq_false HF.out]; rfl, HC2.out, fun g => absurd g HF.out, HB2.out⟩
      · have tl : decide ((j : Int) < (kn : Int)) = false := decide_eq_false (by omega)
        have hd2 : kids.take j = kids := List.take_of_length_le (by have := HN.out; omega)
        rw [hd2] at HL
        go_wp2
        go_ret
        exact ⟨x, by rw [decide_eq_true (show d + (hgtL kids + 1) ≤ 9 by have := HL.out.1; omega)]; rfl, HC.out, fun _ => by rw [HL.out.2, ← HR1.out, HN.out, Bool.and_assoc, Bool.and_comm (headB _ _ _ _ _ _ _ _)], HB.out⟩
  · have t8 : decide ((d : Int) ≤ 8) = false := decide_eq_false (by omega)
    rw [t8] at hv
    have HV := Lib.hid hv
    have HF := Lib.hid (show ¬ d + (hgtL kids + 1) ≤ 9 by omega)
    clear hk h hkn hb0 hpw hc hbox hv hx0 hq hsg hlim hlk hr1 hcl hcap hvs hnm
    go_enter Tryz.func67, Tryz.ntmps67
    go_wp2_with (go_at_call 68; (with_reducible refine HV.out.mono ?_); rintro e' w1 ⟨rfl, hc1, hb1⟩; have HC1 := Lib.hid hc1; have HB1 := Lib.hid (HB0.out.trans hb1); clear hc1 hb1)
    go_ret
    exact ⟨r1, by rw [decide_eq_false HF.out]; rfl, HC1.out, fun g => absurd g HF.out, HB1.out⟩
end Go.Proofs.YtbdippgamlknbaaGreatDoor.Ep
namespace Go.Proofs.YtbdippgamlknbaaGreatDoor.Ep
open Go.RowKit Go.Proofs.YtbdippgamlknbaaGreatDoor.Mem Go.Proofs.YtbdippgamlknbaaGreatDoor.Right Go.Proofs.YtbdippgamlknbaaGreatDoor.Lx
set_option linter.unusedVariables false
set_option maxHeartbeats 2000000 in
theorem check_any (e : Ex) (cs : List Value) (slots : Bool) (w : World) (h : ExAt w w.heap.size e cs) (hs : Signs w) (hl : Lim e) :
    Calls Tryz.prog 35 #[.agg cs.toArray, .bool slots] w fun x w' => x = .returned (.int .i64 (checkE slots e)) ∧ Below w.heap.size w w' := by
  have hcs := h
  obtain ⟨k, o, vk, vn, vs, nm, kids⟩ := e
  obtain ⟨A, kn, c, rfl, -⟩ := ex_open h
  obtain ⟨e, he⟩ : ∃ e, Ex.mk k o vk vn vs nm kids = e := ⟨_, rfl⟩
  rw [he] at hcs hl ⊢
  clear he h
  have hb : Below w.heap.size w (((w.alloc (.cells #[.int .i64 k, .int .i64 o, .int .i64 vk, .int .i64 vn, .string (txt vs), .string (txt nm), .slice A kn c] tE)).alloc (.cells #[.bool slots] tBo)).alloc (.cells #[.bool true] tBo)) := al (al (al (Below.refl _ _) _) _) _
  have hq : (((w.alloc (.cells #[.int .i64 k, .int .i64 o, .int .i64 vk, .int .i64 vn, .string (txt vs), .string (txt nm), .slice A kn c] tE)).alloc (.cells #[.bool slots] tBo)).alloc (.cells #[.bool true] tBo)).cell? ⟨w.heap.size + 1, 0, none⟩ = some (.bool slots) :=
    ((Cel.new (w.alloc (.cells #[.int .i64 k, .int .i64 o, .int .i64 vk, .int .i64 vn, .string (txt vs), .string (txt nm), .slice A kn c] tE)) tBo #[.bool slots] (B := w.heap.size + 1) (by simp)).alloc _).at_ 0
  have hp : Cel (((w.alloc (.cells #[.int .i64 k, .int .i64 o, .int .i64 vk, .int .i64 vn, .string (txt vs), .string (txt nm), .slice A kn c] tE)).alloc (.cells #[.bool slots] tBo)).alloc (.cells #[.bool true] tBo)) (w.heap.size + 1 + 1) tBo #[.bool true] := Cel.new _ tBo _ (by simp)
  have hx := walkC_any (w.heap.size + 1 + 1) (w.heap.size + 1) slots (by omega) (by have := hs.lt; omega) e _ 1 true _ (ExIn.to (fun b hb' => by omega) (fun q hq' => hb.cell hq') e _ hcs) hp hq (hs.below hb hs.lt) hl (by omega)
  rw [show ((1 : Nat) : Int) = 1 from rfl] at hx
  have HB := Lib.hid hb
  clear hcs hb hq hp hs hl
  cases h9 : decide (1 + hgt e ≤ 9) with
  | false =>
    rw [h9] at hx
    have HX := Lib.hid hx
    have HE := Lib.hid (show checkE slots e = 17 by unfold checkE; rw [if_pos (by have := of_decide_eq_false h9; omega)])
    clear hx h9
    go_enter Tryz.func35, Tryz.ntmps35
    go_wp2_with (go_at_call 67; (with_reducible refine HX.out.mono ?_); rintro e' w2 ⟨r', rfl, hc2, hr', hb2⟩; have HB2 := Lib.hid (HB.out.trans (hb2.1.mono (by omega))); clear hc2 hr' hb2)
    go_ret
    exact ⟨ri HE.out.symm, HB2.out⟩
  | true =>
    rw [h9] at hx
    have h9' := of_decide_eq_true h9
    obtain ⟨rr, hrr⟩ : ∃ rr, rightB slots e = rr := ⟨_, rfl⟩
    have HE := Lib.hid (show checkE slots e = if rr = true then 0 else 2 by unfold checkE; rw [if_neg (by omega), hrr])
    rw [hrr] at hx
    have HX := Lib.hid hx
    have H9 := Lib.hid h9'
    clear hx h9 h9' hrr
    cases rr with
    | true =>
      go_enter Tryz.func35, Tryz.ntmps35
      go_wp2_with (go_at_call 67; (with_reducible refine HX.out.mono ?_); rintro e' w2 ⟨r', rfl, hc2, hr', hb2⟩; obtain rfl : r' = true := (hr' H9.out); have z0 := hc2.at_ 0; have HB2 := Lib.hid (HB.out.trans (hb2.1.mono (by omega))); clear hc2 hr' hb2)
      go_ret
      exact ⟨ri HE.out.symm, HB2.out⟩
    | false =>
      go_enter Tryz.func35, Tryz.ntmps35
      go_wp2_with (go_at_call 67; (with_reducible refine HX.out.mono ?_); rintro e' w2 ⟨r', rfl, hc2, hr', hb2⟩; obtain rfl : r' = false := (hr' H9.out); have z0 := hc2.at_ 0; have HB2 := Lib.hid (HB.out.trans (hb2.1.mono (by omega))); clear hc2 hr' hb2)
      go_ret
      exact ⟨ri HE.out.symm, HB2.out⟩
end Go.Proofs.YtbdippgamlknbaaGreatDoor.Ep
namespace Go.Proofs.YtbdippgamlknbaaGreatDoor.Mem
open Go.RowKit
set_option linter.unusedVariables false
theorem quietC_val {C : World → Prop} {K : Act → Prop} {o : Oper} {a : Act} (h : ∃ v, (∀ w, C w → (execOp a.eval o).run Tryz.prog w = .ok (.value v) w) ∧ K (a.put o.dst v)) : o.quiet Tryz.prog a C K := by
  obtain ⟨v, h1, h2⟩ := h
  exact ⟨v, fun w hw => by unfold Oper.quietAt; rw [h1 w hw]; exact ⟨rfl, rfl⟩, h2⟩
end Go.Proofs.YtbdippgamlknbaaGreatDoor.Mem
namespace Go.Proofs.YtbdippgamlknbaaGreatDoor.Ev
open Go.Proofs.YtbdippgamlknbaaGreatDoor.Ep
set_option linter.unusedVariables false
/-- A value as an expression. -/
def litX (v : Vv) : Ex :=
  if v.k ≠ 1 ∨ 0 ≤ v.n then lit v.k v.n v.s
  else if v.n = -9223372036854775808 then bin 10 (un 1 (lit 1 9223372036854775807 [])) (lit 1 1 []) else un 1 (lit 1 (-v.n) [])
section
variable (ps : List Vv)
mutual
def fill : Ex → Ex
  | .mk k o vk vn vs nm kids => if k = 3 then litX (ps.getD (o - 1).toNat nul) else .mk k o vk vn vs nm (fillL kids)
def fillL : List Ex → List Ex
  | [] => []
  | x :: l => fill x :: fillL l
end
end
theorem fillL_map (ps : List Vv) : ∀ l : List Ex, fillL ps l = l.map (fill ps)
  | [] => by rw [fillL]; rfl
  | x :: l => by rw [fillL, fillL_map ps l]; rfl
section
variable {ord : Int → Vv → Vv → Bool} {row : List Vv}
end
mutual
/-- The greatest parameter's number. -/
def pmax : Ex → Int
  | .mk k o _ _ _ _ kids => max (if k = 3 then o else 0) (pmaxL kids)
def pmaxL : List Ex → Int
  | [] => 0
  | x :: l => max (pmax x) (pmaxL l)
end
end Go.Proofs.YtbdippgamlknbaaGreatDoor.Ev
namespace Go.Proofs.YtbdippgamlknbaaGreatDoor.Mem
open Go.RowKit Go.Deep
set_option linter.unusedVariables false
theorem flatk_len {k : Nat} : ∀ {css : List (List Value)}, (∀ cs ∈ css, cs.length = k) → css.flatten.length = css.length * k
  | [], _ => by simp
  | cs :: r, h => by
    rw [List.flatten_cons, List.length_append, flatk_len fun c hc => h c (List.mem_cons_of_mem _ hc), h cs (by simp), List.length_cons, Nat.add_mul]; omega
theorem flatk_at {k : Nat} : ∀ {css : List (List Value)} {j i : Nat} {cs : List Value} {u : Value}, (∀ cs ∈ css, cs.length = k) → css[j]? = some cs → cs[i]? = some u → css.flatten[j * k + i]? = some u
  | [], j, i, cs, u, _, h, _ => by simp at h
  | c :: r, 0, i, cs, u, hl, h, hu => by
    simp at h; subst h
    have hi := (List.getElem?_eq_some_iff.1 hu).1
    rw [List.flatten_cons, List.getElem?_append_left (by omega), show 0 * k + i = i by omega]; exact hu
  | c :: r, j + 1, i, cs, u, hl, h, hu => by
    rw [List.getElem?_cons_succ] at h
    have := flatk_at (fun c hc => hl c (List.mem_cons_of_mem _ hc)) h hu
    have h7 := hl c (by simp)
    have e : (j + 1) * k + i = k + (j * k + i) := by rw [Nat.add_mul]; omega
    rw [List.flatten_cons, e, List.getElem?_append_right (by omega), h7, show k + (j * k + i) - k = j * k + i by omega]; exact this
/-- A list of data in a slice of the call's own, each of k cells; what they lead to lies in blocks of S. -/
def OwnD (w : World) (base : Nat) (e : TypeId) (k : Nat) (S : Nat → Prop) (v : Value) (l : List Dt) : Prop :=
  ∃ css : List (List Value), css.length = l.length ∧ (∀ cs ∈ css, cs.length = k) ∧ w.ownsRow base e k v l.length css.flatten ∧ ∀ (j : Nat) (d : Dt) (cs : List Value), l[j]? = some d → css[j]? = some cs → DtIn w S d cs
section
variable {w w' : World} {base : Nat} {e : TypeId} {k : Nat} {S S' : Nat → Prop} {v : Value} {l : List Dt}
theorem OwnD.nil (w : World) (base : Nat) (e : TypeId) (k : Nat) (S : Nat → Prop) : OwnD w base e k S (.slice none 0 0) [] :=
  ⟨[], rfl, by simp, World.ownsRow_nil _ _ _ _, fun j d cs h => by simp at h⟩
/-- Made with room ahead. -/
theorem OwnD.made (w : World) (base : Nat) (e : TypeId) (k : Nat) (S : Nat → Prop) (cur : Array Value) (cap : Nat) (hb : base ≤ w.heap.size) (hm : cap ≤ maxLen) (hs : cur.size = cap * k) :
    OwnD (w.alloc (.cells cur e)) base e k S (.slice (some ⟨w.heap.size, 0, none⟩) 0 cap) [] :=
  ⟨[], rfl, by simp, World.ownsRow_made w cur cap hb hm hs, fun j d cs h => by simp at h⟩
theorem OwnD.lt (h : OwnD w base e k S v l) : ∀ g, v.ownBlock = some g → base ≤ g ∧ g < w.heap.size := by
  obtain ⟨css, _, _, h, _⟩ := h
  exact h.lt
theorem OwnD.form (h : OwnD w base e k S v l) : ∃ A c, v = .slice A l.length c ∧ (A = none → c = 0) ∧ l.length ≤ c ∧ c ≤ maxLen := by
  obtain ⟨css, hl, _, h, _⟩ := h
  rcases h.2 with ⟨rfl, h0⟩ | ⟨g, cap, cur, rfl, _, _, h1, h2, _⟩
  · exact ⟨none, 0, by rw [h0], fun _ => rfl, by omega, Nat.zero_le _⟩
  · exact ⟨_, cap, rfl, (fun e => by cases e), h1, h2⟩
/-- Elsewhere something has grown. -/
theorem OwnD.kept {row : Option Nat} (h : OwnD w base e k S v l) (hg : w.grownBy w' row) (hne : v.ownBlock = none ∨ v.ownBlock ≠ row) (hS : ∀ b, S b → b < w.heap.size ∧ some b ≠ row) : OwnD w' base e k S v l := by
  obtain ⟨css, hl, hk, ho, hx⟩ := h
  refine ⟨css, hl, hk, ho.kept hg hne, fun j d cs he hc => ?_⟩
  exact DtIn.to (fun _ h => h) (fun p hp => World.cell?_of_block (hg.block p.block (hS _ hp).1 (hS _ hp).2)) d cs (hx j d cs he hc)
theorem OwnD.more (h : OwnD w base e k S v l) (hS : ∀ b, S b → S' b) : OwnD w base e k S' v l := by
  obtain ⟨css, hl, hk, ho, hx⟩ := h
  exact ⟨css, hl, hk, ho, fun j d cs he hc => (hx j d cs he hc).more hS⟩
/-- It reads as the list. -/
theorem OwnD.row (hk0 : k ≠ 0) {A : Option Addr} {n c : Nat} (h : OwnD w base e k S (.slice A n c) l) : RowIn w (fun b => S b ∨ (Value.slice A n c).ownBlock = some b) A k l 0 := by
  obtain ⟨css, hl, h7, ho, hx⟩ := h
  refine RowIn.of fun j d he => ?_
  have hj := (List.getElem?_eq_some_iff.1 he).1
  have hcs : css[j]? = some css[j] := List.getElem?_eq_getElem (by omega)
  have hlen := h7 css[j] (List.getElem_mem _)
  rcases ho.2 with ⟨_, h0⟩ | ⟨g, cap, cur, hv, _, hg, _⟩
  · omega
  · injection hv with hA hn hc
    subst hA
    refine ⟨g, 0, css[j], rfl, .inr rfl, hlen, fun i u hu => ?_, (hx j d _ he hcs).more fun b hb => .inl hb⟩
    have := ho.cells (g := g) rfl _ _ (flatk_at h7 hcs hu)
    rw [show (0 : Nat) + (0 + j) * k + i = j * k + i by rw [Nat.zero_add, Nat.zero_add]]
    have e2 : (⟨g, 0, none⟩ : Addr).add (j * k + i) = ⟨g, j * k + i, none⟩ := by unfold Addr.add; split <;> simp_all
    rw [e2] at this
    exact this
end
/-- Slices of type t have elements of type e, each of k cells and so many bytes. -/
def ElemK (P : Program) (t e : TypeId) (k bytes : Nat) : Prop :=
  ∃ i z, P.underlying t = some (.slice e) ∧ P.info? e = some i ∧ i.zero = some z ∧ i.size = k ∧ i.bytes = bytes ∧ z.cells.size = k ∧ 0 < k
theorem ElemK.of {P : Program} {t e : TypeId} {z : Value} {k bytes : Nat} (ht : P.underlying t = some (.slice e)) (hi : (P.info? e).map (fun i => (i.zero, i.size, i.bytes)) = some (some z, k, bytes)) (hz : z.cells.size = k) (hk : 0 < k) : ElemK P t e k bytes := by
  obtain ⟨i, h, h0, h1, h2⟩ := info_parts hi
  exact ⟨i, z, ht, h, h0, h1, h2, hz, hk⟩
end Go.Proofs.YtbdippgamlknbaaGreatDoor.Mem
