/- A tree is gone through by one function that is handed another one: may it be (Check), and  May a tree be (Check), and how high it is (Height): the program's answers. The document's own way to tell a token's kind: are all bytes of a text, from one on, in a  -/
import Derived.Test.YtciclpbbegkpcaaGreatDoorKc23
import Derived.BigQuiet
import Derived.Deep.QuietTactic
import Derived.Test.YtciclpbbegkpcaaGreatDoorKc06
import Derived.Test.YtciclpbbegkpcaaGreatDoorKc18
import Derived.Test.YtciclpbbegkpcaaGreatDoorKc21
namespace Go.Proofs.YtciclpbbegkpcaaGreatDoor.Ep
open Go.RowKit Go.Proofs.YtciclpbbegkpcaaGreatDoor.Mem Go.Proofs.YtciclpbbegkpcaaGreatDoor.Right Go.Proofs.YtciclpbbegkpcaaGreatDoor.Lx
set_option linter.unusedVariables false
abbrev tBo : TypeId := 4
set_option maxHeartbeats 4000000 in
theorem seenC_any (k o vk vn : Int) (vs nm : List UInt8) (A : Option Addr) (n c d p q : Nat) (r slots : Bool) (w : World) (hs : Signs w) (hp : Cel w p tBo #[.bool r]) (hq : w.cell? ⟨q, 0, none⟩ = some (.bool slots)) (hqp : q < p) (hvs : vs.length ≤ 1000000) (hnm : nm.length ≤ 1000000) :
    Calls Tryz.prog 75 #[exV k o vk vn (txt vs) (txt nm) A n c, .int .i64 (d : Int), .pointer (some ⟨p, 0, none⟩), .pointer (some ⟨q, 0, none⟩)] w fun e w' => e = .returned (.bool (decide ((d : Int) ≤ 8))) ∧ Cel w' p tBo #[.bool (r && headB slots k o vk vn vs nm n)] ∧ Oth p w w' := by
  have hlt := hp.lt
  have h1 := hp.alloc (.cells #[.int .i64 k, .int .i64 o, .int .i64 vk, .int .i64 vn, .string (txt vs), .string (txt nm), .slice A n c] tE)
  have hb1 := al (Below.refl w.heap.size w) (.cells #[.int .i64 k, .int .i64 o, .int .i64 vk, .int .i64 vn, .string (txt vs), .string (txt nm), .slice A n c] tE)
  have c0 : (w.alloc (.cells #[.int .i64 k, .int .i64 o, .int .i64 vk, .int .i64 vn, .string (txt vs), .string (txt nm), .slice A n c] 26)).cell? ⟨p, 0, none⟩ = some (.bool r) := h1.at_ 0
  have HB1 := Lib.hid hb1
  have HS1 := Lib.hid (hs.below hb1 hs.lt)
  have H := Lib.hid h1
  have HL := Lib.hid hlt
  cases r with
  | false =>
    have f0 : (w.alloc (.cells #[.int .i64 k, .int .i64 o, .int .i64 vk, .int .i64 vn, .string (txt vs), .string (txt nm), .slice A n c] 26)).frozen? ⟨p, 0, none⟩ = false := h1.open_ 0
    clear h1 hb1 hp hs hq hlt
    go_enter Tryz.func75, Tryz.ntmps75
    go_wp2
    go_ret
    exact ⟨rfl, H.out.set 0 _, ((Oth.refl p w).alloc (Nat.le_of_lt HL.out) _).set 0 _⟩
  | true =>
    obtain ⟨x, hx⟩ : ∃ x, headB slots k o vk vn vs nm n = x := ⟨_, rfl⟩
    have HR := Lib.hid (show Calls Tryz.prog 76 #[exV k o vk vn (txt vs) (txt nm) A n c, .bool slots] (w.alloc (.cells #[.int .i64 k, .int .i64 o, .int .i64 vk, .int .i64 vn, .string (txt vs), .string (txt nm), .slice A n c] tE)) fun e w' => e = .returned (.bool x) ∧ Below (w.alloc (.cells #[.int .i64 k, .int .i64 o, .int .i64 vk, .int .i64 vn, .string (txt vs), .string (txt nm), .slice A n c] tE)).heap.size (w.alloc (.cells #[.int .i64 k, .int .i64 o, .int .i64 vk, .int .i64 vn, .string (txt vs), .string (txt nm), .slice A n c] tE)) w' from by
      rw [← hx]; exact isRight_any k o vk vn vs nm A n c slots _ HS1.out hvs hnm)
    have hqw : q < w.heap.size := by omega
    have d0 : (w.alloc (.cells #[.int .i64 k, .int .i64 o, .int .i64 vk, .int .i64 vn, .string (txt vs), .string (txt nm), .slice A n c] 26)).cell? ⟨q, 0, none⟩ = some (.bool slots) := (hb1.cell hqw).trans hq
    rw [hx]
    clear h1 hb1 hp hs hq hlt hx
    go_enter Tryz.func75, Tryz.ntmps75
    go_wp2_with (go_at_call 76; (with_reducible refine HR.out.mono ?_); rintro e w2 ⟨rfl, hb2⟩; have H2 := Lib.hid (H.out.below hb2); have f2 := H2.out.open_ 0; have e2 := H2.out.at_ 0; have HB2 := Lib.hid hb2; clear hb2)
    go_ret
    exact ⟨rfl, H2.out.set 0 _, (((Oth.refl p w).alloc (Nat.le_of_lt HL.out) _).trans (Oth.of HB2.out (Nat.le_of_lt H.out.lt))).set 0 _⟩
set_option maxHeartbeats 4000000 in
theorem walkC_any (p q : Nat) (slots : Bool) (hqp : q < p) (hgp : 0 < p) : ∀ (e : Ex) (cs : List Value) (d : Nat) (r : Bool) (w : World), ExAt w p e cs → Cel w p tBo #[.bool r] → w.cell? ⟨q, 0, none⟩ = some (.bool slots) → Signs w → Lim e → d ≤ 9 →
    Calls Tryz.prog 74 #[.agg cs.toArray, .int .i64 (d : Int), .func (.func 75) #[] #[.pointer (some ⟨p, 0, none⟩), .pointer (some ⟨q, 0, none⟩)]] w fun x w' => ∃ r', x = .returned (.bool (decide (d + hgt e ≤ 9))) ∧ Cel w' p tBo #[.bool r'] ∧ (d + hgt e ≤ 9 → r' = (r && rightB slots e)) ∧ Oth p w w' := by
  refine Ex.byKids fun k o vk vn vs nm kids ih cs d r w h hc hq hsg hlim hd => ?_
  obtain ⟨A, kn, c, rfl, hkn, hcl, hcap, -, hk⟩ := ex_open h
  obtain ⟨hvs, hnm, hlk⟩ := (lim_mk _ _ _ _ _ _ _).1 hlim
  rw [hgt_mk, rightB_mk]
  have hkm : kn ≤ maxLen := by rw [hkn]; exact Nat.le_trans hcl hcap
  unfold maxLen at hkm
  have hpw := hc.lt
  have hb0 := (Oth.refl p w).alloc (Nat.le_of_lt hpw) (.cells #[.int .i64 k, .int .i64 o, .int .i64 vk, .int .i64 vn, .string (txt vs), .string (txt nm), .slice A kn c] tE)
  have hx0 : (w.alloc (.cells #[.int .i64 k, .int .i64 o, .int .i64 vk, .int .i64 vn, .string (txt vs), .string (txt nm), .slice A kn c] tE)).cell? ⟨q, 0, none⟩ = some (.bool slots) := (hb0.1.cell (p := ⟨q, 0, none⟩) hqp).trans hq
  obtain ⟨r1, hr1⟩ : ∃ r1, (r && headB slots k o vk vn vs nm kn) = r1 := ⟨_, rfl⟩
  have hbox : Cel (w.alloc (.cells #[.int .i64 k, .int .i64 o, .int .i64 vk, .int .i64 vn, .string (txt vs), .string (txt nm), .slice A kn c] tE)) w.heap.size tE #[.int .i64 k, .int .i64 o, .int .i64 vk, .int .i64 vn, .string (txt vs), .string (txt nm), .slice A kn c] := Cel.new w tE _ rfl
  have HX := Lib.hid (fun W (hW : Oth p (w.alloc (.cells #[.int .i64 k, .int .i64 o, .int .i64 vk, .int .i64 vn, .string (txt vs), .string (txt nm), .slice A kn c] tE)) W) => (show W.cell? ⟨w.heap.size, 6, none⟩ = some (.slice A kn c) from (hW.cel (by omega) hbox).at_ 6))
  have hv := seenC_any k o vk vn vs nm A kn c d p q r slots (w.alloc (.cells #[.int .i64 k, .int .i64 o, .int .i64 vk, .int .i64 vn, .string (txt vs), .string (txt nm), .slice A kn c] tE)) (hsg.below hb0.1 hgp) (hc.alloc _) hx0 hqp hvs hnm
  rw [hr1] at hv
  have HB0 := Lib.hid hb0
  have HK := Lib.hid hk
  have HN := Lib.hid hkn
  have HR1 := Lib.hid hr1
  have HQ := Lib.hid hq
  have HSG := Lib.hid hsg
  have HLK := Lib.hid hlk
  by_cases h8 : d ≤ 8
  · have t8 : decide ((d : Int) ≤ 8) = true := decide_eq_true (by omega)
    rw [t8] at hv
    have HV := Lib.hid hv
    clear hk h hkn hb0 hpw hc hbox hv hx0 hq hsg hlim hlk hr1 hcl hcap hvs hnm
    go_enter Tryz.func74, Tryz.ntmps74
    go_wp2_with (go_at_call 75; (with_reducible refine HV.out.mono ?_); rintro e' w1 ⟨rfl, hc1, hb1⟩; have HC1 := Lib.hid hc1; have x6 := HX.out _ hb1; have HB1 := Lib.hid (HB0.out.trans hb1); clear hc1 hb1)
    clear x6
    go_loopw [17] (fun i wr => ∃ (j : Nat) (x : Bool), j ≤ kn ∧ i = .int .i64 (j : Int) ∧ Hid (d + hgtL (kids.take j) ≤ 8 ∧ x = (r1 && rightL slots (kids.take j))) ∧ Hid (Cel wr p tBo #[.bool x]) ∧ Hid (Oth p w wr)) (fun i _ => kn + 1 - (intOf i).toNat)
    case atStart => exact ⟨0, r1, Nat.zero_le _, rfl, Lib.hid ⟨by rw [List.take_zero, hgtL]; omega, by rw [List.take_zero, rightL, Bool.and_true]⟩, HC1, HB1⟩
    case round =>
      obtain ⟨j, x, hj, rfl, HL, HC, HB⟩ := hrel
      by_cases hlt : j < kn
      · obtain ⟨y, hy⟩ := kid_some (l := kids) (j := j) (by have := HN.out; omega)
        obtain ⟨k', o', vk', vn', vs', nm', ks', A', n', c', b, z, e, rfl, hb, hn', c0, c1, c2, c3, c4, c5, c6, hin⟩ := kid_at HK.out hy
        have hgy := hgtL_mem (kid_mem hy)
        obtain ⟨lw, hlw⟩ : ∃ lw, decide (d + 1 + hgt y ≤ 9) = lw := ⟨_, rfl⟩
        have HI := Lib.hid (fun W (hW : Oth p w W) (hWc : Cel W p tBo #[.bool x]) => (show Calls Tryz.prog 74 #[exV k' o' vk' vn' (txt vs') (txt nm') A' n' c', .int .i64 ((d : Int) + 1), .func (.func 75) #[] #[.pointer (some ⟨p, 0, none⟩), .pointer (some ⟨q, 0, none⟩)]] W fun u w' => ∃ r', u = .returned (.bool lw) ∧ Cel w' p tBo #[.bool r'] ∧ (d + 1 + hgt y ≤ 9 → r' = (x && rightB slots y)) ∧ Oth p W w' from by
          rw [← hlw]
          exact ih y (kid_mem hy) _ (d + 1) x W (ExAt.below hin hW.1) hWc ((hW.1.cell (p := ⟨q, 0, none⟩) hqp).trans HQ.out) (HSG.out.below hW.1 hgp) (HLK.out y (kid_mem hy)) (by omega)))
        have HT := Lib.hid (show hgtL (kids.take (j + 1)) = max (hgtL (kids.take j)) (hgt y) ∧ rightL slots (kids.take (j + 1)) = (rightL slots (kids.take j) && rightB slots y) by rw [List.take_add_one, hy]; exact ⟨hgtL_snoc _ _, rightL_snoc _ _⟩)
        have c0 := (HB.out.1.cell hb).trans c0
        have c1 := (HB.out.1.cell hb).trans c1
        have c2 := (HB.out.1.cell hb).trans c2
        have c3 := (HB.out.1.cell hb).trans c3
        have c4 := (HB.out.1.cell hb).trans c4
        have c5 := (HB.out.1.cell hb).trans c5
        have c6 := (HB.out.1.cell hb).trans c6
        have hpr := HC.out.lt
        have HBk := Lib.hid (HB.out.alloc (Nat.le_of_lt hpr) (.cells #[.int .i64 k', .int .i64 o', .int .i64 vk', .int .i64 vn', .string (txt vs'), .string (txt nm'), .slice A' n' c'] tE))
        have HCk := Lib.hid (HC.out.alloc (.cells #[.int .i64 k', .int .i64 o', .int .i64 vk', .int .i64 vn', .string (txt vs'), .string (txt nm'), .slice A' n' c'] tE))
        have tl : decide ((j : Int) < (kn : Int)) = true := decide_eq_true (by omega)
        cases lw with
        | true =>
          have hl9 : d + 1 + hgt y ≤ 9 := of_decide_eq_true hlw
          have HL9 := Lib.hid hl9
          clear hin hn' e hy hlw hpr hgy hl9
          go_wp2_with (go_at_call 74; (with_reducible refine (HI.out _ HBk.out HCk.out).mono ?_); rintro e' w2 ⟨r', rfl, hc2, hr', hb2⟩; have HC2 := Lib.hid hc2; have HB2 := Lib.hid (HBk.out.trans hb2); have HR' := Lib.hid (hr' HL9.out); clear hc2 hb2 hr')
          go_roundw
          case rel => exact ⟨j + 1, r', by omega, by go_num, Lib.hid ⟨by have := HT.out.1; have := HL.out.1; have := HL9.out; omega, by rw [HR'.out, HL.out.2, HT.out.2, Bool.and_assoc]⟩, HC2, HB2⟩
          case measure => simp [intOf]; omega
        | false =>
          have hl9 : ¬ d + 1 + hgt y ≤ 9 := of_decide_eq_false hlw
          have HF := Lib.hid (show ¬ d + (hgtL kids + 1) ≤ 9 by omega)
          clear hin hn' e hy hlw hpr hgy hl9
          go_wp2_with (go_at_call 74; (with_reducible refine (HI.out _ HBk.out HCk.out).mono ?_); rintro e' w2 ⟨r', rfl, hc2, hr', hb2⟩; have HC2 := Lib.hid hc2; have HB2 := Lib.hid (HBk.out.trans hb2); clear hc2 hb2 hr')
          go_ret
          exact ⟨r', by rw [decide_eq_false HF.out]; rfl, HC2.out, fun g => absurd g HF.out, HB2.out⟩
      · have tl : decide ((j : Int) < (kn : Int)) = false := decide_eq_false (by omega)
        have hd2 : kids.take j = kids := List.take_of_length_le (by have := HN.out; omega)
        rw [hd2] at HL
        go_wp2
        go_ret
        exact ⟨x, by rw [decide_eq_true (show d + (hgtL kids + 1) ≤ 9 by have := HL.out.1; omega)]; rfl, HC.out, fun _ => by rw [HL.out.2, ← HR1.out, HN.out, Bool.and_assoc, Bool.and_comm (headB _ _ _ _ _ _ _ _)], HB.out⟩
  · have t8 : decide ((d : Int) ≤ 8) = false := decide_eq_false (by omega)
    rw [t8] at hv
    have HV := Lib.hid hv
    have HF := Lib.hid (show ¬ d + (hgtL kids + 1) ≤ 9 by omega)
    clear hk h hkn hb0 hpw hc hbox hv hx0 hq hsg hlim hlk hr1 hcl hcap hvs hnm
    go_enter Tryz.func74, Tryz.ntmps74
    go_wp2_with (go_at_call 75; (with_reducible refine HV.out.mono ?_); rintro e' w1 ⟨rfl, hc1, hb1⟩; have HC1 := Lib.hid hc1; have HB1 := Lib.hid (HB0.out.trans hb1); clear hc1 hb1)
    go_ret
    exact ⟨r1, by rw [decide_eq_false HF.out]; rfl, HC1.out, fun g => absurd g HF.out, HB1.out⟩
end Go.Proofs.YtciclpbbegkpcaaGreatDoor.Ep
namespace Go.Proofs.YtciclpbbegkpcaaGreatDoor.Ep
open Go.RowKit Go.Proofs.YtciclpbbegkpcaaGreatDoor.Mem Go.Proofs.YtciclpbbegkpcaaGreatDoor.Right Go.Proofs.YtciclpbbegkpcaaGreatDoor.Lx
set_option linter.unusedVariables false
set_option maxHeartbeats 2000000 in
theorem check_any (e : Ex) (cs : List Value) (slots : Bool) (w : World) (h : ExAt w w.heap.size e cs) (hs : Signs w) (hl : Lim e) :
    Calls Tryz.prog 39 #[.agg cs.toArray, .bool slots] w fun x w' => x = .returned (.int .i64 (checkE slots e)) ∧ Below w.heap.size w w' := by
  have hcs := h
  obtain ⟨k, o, vk, vn, vs, nm, kids⟩ := e
  obtain ⟨A, kn, c, rfl, -⟩ := ex_open h
  obtain ⟨e, he⟩ : ∃ e, Ex.mk k o vk vn vs nm kids = e := ⟨_, rfl⟩
  rw [he] at hcs hl ⊢
  clear he h
  have hb : Below w.heap.size w (((w.alloc (.cells #[.int .i64 k, .int .i64 o, .int .i64 vk, .int .i64 vn, .string (txt vs), .string (txt nm), .slice A kn c] tE)).alloc (.cells #[.bool slots] tBo)).alloc (.cells #[.bool true] tBo)) := al (al (al (Below.refl _ _) _) _) _
  have hq : (((w.alloc (.cells #[.int .i64 k, .int .i64 o, .int .i64 vk, .int .i64 vn, .string (txt vs), .string (txt nm), .slice A kn c] tE)).alloc (.cells #[.bool slots] tBo)).alloc (.cells #[.bool true] tBo)).cell? ⟨w.heap.size + 1, 0, none⟩ = some (.bool slots) :=
    ((Cel.new (w.alloc (.cells #[.int .i64 k, .int .i64 o, .int .i64 vk, .int .i64 vn, .string (txt vs), .string (txt nm), .slice A kn c] tE)) tBo #[.bool slots] (B := w.heap.size + 1) (by simp)).alloc _).at_ 0
  have hp : Cel (((w.alloc (.cells #[.int .i64 k, .int .i64 o, .int .i64 vk, .int .i64 vn, .string (txt vs), .string (txt nm), .slice A kn c] tE)).alloc (.cells #[.bool slots] tBo)).alloc (.cells #[.bool true] tBo)) (w.heap.size + 1 + 1) tBo #[.bool true] := Cel.new _ tBo _ (by simp)
  have hx := walkC_any (w.heap.size + 1 + 1) (w.heap.size + 1) slots (by omega) (by have := hs.lt; omega) e _ 1 true _ (ExIn.to (fun b hb' => by omega) (fun q hq' => hb.cell hq') e _ hcs) hp hq (hs.below hb hs.lt) hl (by omega)
  rw [show ((1 : Nat) : Int) = 1 from rfl] at hx
  have HB := Lib.hid hb
  clear hcs hb hq hp hs hl
  cases h9 : decide (1 + hgt e ≤ 9) with
  | false =>
    rw [h9] at hx
    have HX := Lib.hid hx
    have HE := Lib.hid (show checkE slots e = 17 by unfold checkE; rw [if_pos (by have := of_decide_eq_false h9; omega)])
    clear hx h9
    go_enter Tryz.func39, Tryz.ntmps39
    go_wp2_with (go_at_call 74; (with_reducible refine HX.out.mono ?_); rintro e' w2 ⟨r', rfl, hc2, hr', hb2⟩; have HB2 := Lib.hid (HB.out.trans (hb2.1.mono (by omega))); clear hc2 hr' hb2)
    go_ret
    exact ⟨ri HE.out.symm, HB2.out⟩
  | true =>
    rw [h9] at hx
    have h9' := of_decide_eq_true h9
    obtain ⟨rr, hrr⟩ : ∃ rr, rightB slots e = rr := ⟨_, rfl⟩
    have HE := Lib.hid (show checkE slots e = if rr = true then 0 else 2 by unfold checkE; rw [if_neg (by omega), hrr])
    rw [hrr] at hx
    have HX := Lib.hid hx
    have H9 := Lib.hid h9'
    clear hx h9 h9' hrr
    cases rr with
    | true =>
      go_enter Tryz.func39, Tryz.ntmps39
      go_wp2_with (go_at_call 74; (with_reducible refine HX.out.mono ?_); rintro e' w2 ⟨r', rfl, hc2, hr', hb2⟩; obtain rfl : r' = true := (hr' H9.out); have z0 := hc2.at_ 0; have HB2 := Lib.hid (HB.out.trans (hb2.1.mono (by omega))); clear hc2 hr' hb2)
      go_ret
      exact ⟨ri HE.out.symm, HB2.out⟩
    | false =>
      go_enter Tryz.func39, Tryz.ntmps39
      go_wp2_with (go_at_call 74; (with_reducible refine HX.out.mono ?_); rintro e' w2 ⟨r', rfl, hc2, hr', hb2⟩; obtain rfl : r' = false := (hr' H9.out); have z0 := hc2.at_ 0; have HB2 := Lib.hid (HB.out.trans (hb2.1.mono (by omega))); clear hc2 hr' hb2)
      go_ret
      exact ⟨ri HE.out.symm, HB2.out⟩
end Go.Proofs.YtciclpbbegkpcaaGreatDoor.Ep
namespace Go.Proofs.YtciclpbbegkpcaaGreatDoor.Lx
open Go.RowKit Go.Proofs.YtciclpbbegkpcaaGreatDoor.Mem Go.Proofs.YtciclpbbegkpcaaGreatDoor.Right
set_option linter.unusedVariables false
def inS (l : List UInt8) (c : UInt8) : Bool := decide (c ∈ l)
theorem inS_snoc (l : List UInt8) (x c : UInt8) : inS (l ++ [x]) c = (inS l c || decide (x = c)) := by
  unfold inS
  by_cases h1 : c ∈ l <;> by_cases h2 : x = c <;> simp [h1, h2]
  all_goals first | (subst h2; simp) | (intro h; exact absurd h.symm h2)
theorem inS_contains (l : List UInt8) (c : UInt8) : inS l c = l.contains c := by unfold inS; simp
theorem all_from {p : UInt8 → Bool} {l : List UInt8} {n : Nat} : (l.drop n).all p = true ↔ ∀ i c, n ≤ i → l[i]? = some c → p c = true := by
  rw [List.all_eq_true]
  constructor
  · intro h i c hi hc
    refine h c (List.mem_iff_getElem?.2 ⟨i - n, ?_⟩)
    rw [List.getElem?_drop, show n + (i - n) = i by omega]
    exact hc
  · intro h c hc
    obtain ⟨i, hi⟩ := List.mem_iff_getElem?.1 hc
    rw [List.getElem?_drop] at hi
    exact h (n + i) c (by omega) hi
theorem byte_at (s : ByteArray) (k : Nat) (h : k < s.size) : s.data.toList[k]? = some s[k] := by
  rw [Array.getElem?_toList]
  exact Array.getElem?_eq_getElem h
theorem beq_bytes (a b : UInt8) : ((a.toNat : Int) == (b.toNat : Int)) = decide (a = b) := by
  by_cases h : a = b
  · subst h; simp
  · rw [decide_eq_false h]
    exact beq_no fun e => h (UInt8.toNat_inj.1 (by omega))
theorem drewN_below {B : Nat} {w a : World} (h : Below B w a) (n : Nat) : Below B w (a.drewN n) := h.trans ⟨rfl, rfl, rfl, Nat.le_refl _, fun _ _ => rfl⟩
set_option maxHeartbeats 4000000 in
theorem all_any (s z : ByteArray) (n : Nat) (hs : s.size ≤ 1000000) (hz : z.size ≤ 1000) (hn : n ≤ 1000000) (w : World) :
    Calls Tryz.prog 269 #[.string s, .int .i64 (n : Int), .string z] w fun e w' => e = .returned (.bool ((s.data.toList.drop n).all (inS z.data.toList))) ∧ Below w.heap.size w w' := by
  go_enter Tryz.func269, Tryz.ntmps269
  go_wp2
  go_loopw [7] (fun i wr => ∃ k : Nat, n ≤ k ∧ k ≤ 1000000 ∧ i = .int .i64 (k : Int) ∧ Hid (∀ i c, n ≤ i → i < k → s.data.toList[i]? = some c → inS z.data.toList c = true) ∧ Hid (Below w.heap.size w wr)) (fun i _ => 1000001 - (intOf i).toNat)
  case atStart => exact ⟨n, Nat.le_refl _, hn, rfl, Lib.hid (fun i c h1 h2 => by omega), Lib.hid (Below.refl _ _)⟩
  case round =>
    obtain ⟨k, hk, hk6, rfl, HA, HB⟩ := hrel
    by_cases hlt : k < s.size
    · have tl : decide ((k : Int) < (s.size : Int)) = true := decide_eq_true (by omega)
      obtain ⟨c, hc⟩ : ∃ c, s[k] = c := ⟨_, rfl⟩
      have HC := Lib.hid (show s.data.toList[k]? = some c by rw [byte_at s k hlt, hc])
      go_wp2
      go_loopw [8, 9] (fun b i wr => ∃ (j : Nat) (x : Bool), j ≤ z.size ∧ b = .bool x ∧ i = .int .i64 (j : Int) ∧ Hid (x = inS (z.data.toList.take j) c) ∧ Hid (Below w.heap.size w wr)) (fun _ i _ => z.size + 1 - (intOf i).toNat)
      case atStart => exact ⟨0, false, Nat.zero_le _, rfl, rfl, Lib.hid (by rw [List.take_zero]; rfl), HB⟩
      case round =>
        obtain ⟨j, x, hj, rfl, rfl, HX, HB2⟩ := hrel
        by_cases hlj : j < z.size
        · have tj : decide ((j : Int) < (z.size : Int)) = true := decide_eq_true (by omega)
          obtain ⟨d, hd⟩ : ∃ d, z[j] = d := ⟨_, rfl⟩
          have HS := Lib.hid (show inS (z.data.toList.take (j + 1)) c = (x || decide (d = c)) by rw [take_snoc z j hlj, inS_snoc, ← HX.out, hd])
          cases x with
          | true =>
            go_wp2
            go_quiet (fail)
            go_wp2
            go_roundw
            case rel => exact ⟨j + 1, true, by omega, rfl, by go_num, Lib.hid (by rw [HS.out]; rfl), Lib.hid (drewN_below HB2.out _)⟩
            case measure => simp [intOf]; omega
          | false =>
            have tb : ((d.toNat : Int) == (c.toNat : Int)) = decide (d = c) := beq_bytes d c
            obtain ⟨y, hy⟩ : ∃ y, decide (d = c) = y := ⟨_, rfl⟩
            rw [hy] at tb
            have HS := Lib.hid (show inS (z.data.toList.take (j + 1)) c = y by rw [HS.out, hy]; rfl)
            clear hy
            go_wp2
            go_quiet (fail)
            go_wp2
            go_roundw
            case rel => exact ⟨j + 1, y, by omega, rfl, by go_num, Lib.hid HS.out.symm, Lib.hid (drewN_below HB2.out _)⟩
            case measure => simp [intOf]; omega
        · have tj : decide ((j : Int) < (z.size : Int)) = false := decide_eq_false (by omega)
          have HF := Lib.hid (show x = inS z.data.toList c by rw [HX.out, List.take_of_length_le (by rw [Array.length_toList]; exact Nat.le_of_not_lt hlj)])
          cases x with
          | true =>
            go_wp2
            go_roundw
            case rel => exact ⟨k + 1, by omega, by omega, by go_num, Lib.hid (fun i c' h1 h2 h3 => by
              by_cases e : i = k
              · subst e
                rw [HC.out] at h3
                injection h3 with h3
                rw [← h3]; exact HF.out.symm
              · exact HA.out i c' h1 (by omega) h3), HB2⟩
            case measure => simp [intOf]; omega
          | false =>
            have HN := Lib.hid (show (s.data.toList.drop n).all (inS z.data.toList) = false by
              rw [Bool.eq_false_iff]
              intro h
              have := all_from.1 h k c hk HC.out
              rw [← HF.out] at this
              cases this)
            go_wp2
            go_ret
            exact ⟨rb HN.out.symm, HB2.out⟩
    · have tl : decide ((k : Int) < (s.size : Int)) = false := decide_eq_false (by omega)
      have HY := Lib.hid (show (s.data.toList.drop n).all (inS z.data.toList) = true from all_from.2 fun i c h1 h3 => HA.out i c h1 (by have := (List.getElem?_eq_some_iff.1 h3).1; rw [Array.length_toList] at this; exact Nat.lt_of_lt_of_le this (Nat.le_of_not_lt hlt)) h3)
      go_wp2
      go_ret
      exact ⟨rb HY.out.symm, HB.out⟩
end Go.Proofs.YtciclpbbegkpcaaGreatDoor.Lx
