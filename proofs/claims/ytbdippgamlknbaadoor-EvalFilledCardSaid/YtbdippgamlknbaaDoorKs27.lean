/- Trees whose texts are not too long; what a list's beginning is. A tree is gone through by one function that is handed another one: may it be (Check), and  May a tree be (Check), and how high it is (Height): the program's answers. A tree that came in as an argument. -/
import Derived.Test.YtbdippgamlknbaaDoorKs07
import Derived.Test.YtbdippgamlknbaaDoorKs26
import Derived.OpenShut
import Derived.ChangeOld
namespace Go.Proofs.YtbdippgamlknbaaDoor.Ep
open Go.RowKit Go.Proofs.YtbdippgamlknbaaDoor.Mem Go.Proofs.YtbdippgamlknbaaDoor.Right
set_option linter.unusedVariables false
abbrev tI : TypeId := 3
abbrev tE : TypeId := 38
mutual
/-- No text in it is longer than a machine can walk in one sitting. -/
def Lim : Ex → Prop
  | .mk _ _ _ _ vs nm kids => vs.length ≤ 1000000 ∧ nm.length ≤ 1000000 ∧ LimL kids
def LimL : List Ex → Prop
  | [] => True
  | x :: l => Lim x ∧ LimL l
end
theorem limL_iff : ∀ {l : List Ex}, LimL l ↔ ∀ x ∈ l, Lim x
  | [] => by rw [LimL]; simp
  | x :: l => by rw [LimL, limL_iff]; simp
theorem lim_mk (k o vk vn : Int) (vs nm : List UInt8) (kids : List Ex) : Lim (.mk k o vk vn vs nm kids) ↔ vs.length ≤ 1000000 ∧ nm.length ≤ 1000000 ∧ ∀ x ∈ kids, Lim x := by rw [Lim, limL_iff]
mutual
theorem cnt_lim : ∀ {e : Ex} {n m : Nat}, cnt e n = some m → Lim e
  | .mk k o vk vn vs nm kids, n, m, h => by
    rw [cnt] at h
    split at h
    · cases h
    · rename_i h0
      rw [Lim]
      exact ⟨by omega, by omega, cntL_lim h⟩
theorem cntL_lim : ∀ {l : List Ex} {n m : Nat}, cntL l n = some m → LimL l
  | [], n, m, h => by rw [LimL]; trivial
  | x :: l, n, m, h => by
    rw [cntL] at h
    split at h
    · cases h
    · rename_i m' e
      rw [LimL]
      exact ⟨cnt_lim e, cntL_lim h⟩
end
theorem rightL_snoc {slots : Bool} : ∀ (l : List Ex) (x : Ex), rightL slots (l ++ [x]) = (rightL slots l && rightB slots x)
  | [], x => by simp [rightL]
  | y :: l, x => by rw [List.cons_append, rightL, rightL, rightL_snoc l x, Bool.and_assoc]
end Go.Proofs.YtbdippgamlknbaaDoor.Ep
namespace Go.Proofs.YtbdippgamlknbaaDoor.Ep
open Go.RowKit Go.Proofs.YtbdippgamlknbaaDoor.Mem Go.Proofs.YtbdippgamlknbaaDoor.Right Go.Proofs.YtbdippgamlknbaaDoor.Lx
set_option linter.unusedVariables false
abbrev tBo : TypeId := 4
set_option maxHeartbeats 4000000 in
theorem seenC_any (k o vk vn : Int) (vs nm : List UInt8) (A : Option Addr) (n c d p q : Nat) (r slots : Bool) (w : World) (hs : Signs w) (hp : Cel w p tBo #[.bool r]) (hq : w.cell? ⟨q, 0, none⟩ = some (.bool slots)) (hqp : q < p) (hvs : vs.length ≤ 1000000) (hnm : nm.length ≤ 1000000) :
    Calls Tryd.prog 95 #[exV k o vk vn (txt vs) (txt nm) A n c, .int .i64 (d : Int), .pointer (some ⟨p, 0, none⟩), .pointer (some ⟨q, 0, none⟩)] w fun e w' => e = .returned (.bool (decide ((d : Int) ≤ 8))) ∧ Cel w' p tBo #[.bool (r && headB slots k o vk vn vs nm n)] ∧ Oth p w w' := by
  have hlt := hp.lt
  have h1 := hp.alloc (.cells #[.int .i64 k, .int .i64 o, .int .i64 vk, .int .i64 vn, .string (txt vs), .string (txt nm), .slice A n c] tE)
  have hb1 := al (Below.refl w.heap.size w) (.cells #[.int .i64 k, .int .i64 o, .int .i64 vk, .int .i64 vn, .string (txt vs), .string (txt nm), .slice A n c] tE)
  have c0 : (w.alloc (.cells #[.int .i64 k, .int .i64 o, .int .i64 vk, .int .i64 vn, .string (txt vs), .string (txt nm), .slice A n c] 38)).cell? ⟨p, 0, none⟩ = some (.bool r) := h1.at_ 0
  have HB1 := Lib.hid hb1
  have HS1 := Lib.hid (hs.below hb1 hs.lt)
  have H := Lib.hid h1
  have HL := Lib.hid hlt
  cases r with
  | false =>
    have f0 : (w.alloc (.cells #[.int .i64 k, .int .i64 o, .int .i64 vk, .int .i64 vn, .string (txt vs), .string (txt nm), .slice A n c] 38)).frozen? ⟨p, 0, none⟩ = false := h1.open_ 0
    clear h1 hb1 hp hs hq hlt
    go_enter Tryd.func95, Tryd.ntmps95
    go_wp2
    go_ret
    exact ⟨rfl, H.out.set 0 _, ((Oth.refl p w).alloc (Nat.le_of_lt HL.out) _).set 0 _⟩
  | true =>
    obtain ⟨x, hx⟩ : ∃ x, headB slots k o vk vn vs nm n = x := ⟨_, rfl⟩
    have HR := Lib.hid (show Calls Tryd.prog 96 #[exV k o vk vn (txt vs) (txt nm) A n c, .bool slots] (w.alloc (.cells #[.int .i64 k, .int .i64 o, .int .i64 vk, .int .i64 vn, .string (txt vs), .string (txt nm), .slice A n c] tE)) fun e w' => e = .returned (.bool x) ∧ Below (w.alloc (.cells #[.int .i64 k, .int .i64 o, .int .i64 vk, .int .i64 vn, .string (txt vs), .string (txt nm), .slice A n c] tE)).heap.size (w.alloc (.cells #[.int .i64 k, .int .i64 o, .int .i64 vk, .int .i64 vn, .string (txt vs), .string (txt nm), .slice A n c] tE)) w' from by
      rw [← hx]; exact isRight_any k o vk vn vs nm A n c slots _ HS1.out hvs hnm)
    have hqw : q < w.heap.size := by omega
    have d0 : (w.alloc (.cells #[.int .i64 k, .int .i64 o, .int .i64 vk, .int .i64 vn, .string (txt vs), .string (txt nm), .slice A n c] 38)).cell? ⟨q, 0, none⟩ = some (.bool slots) := (hb1.cell hqw).trans hq
    rw [hx]
    clear h1 hb1 hp hs hq hlt hx
    go_enter Tryd.func95, Tryd.ntmps95
    go_wp2_with (go_at_call 96; (with_reducible refine HR.out.mono ?_); rintro e w2 ⟨rfl, hb2⟩; have H2 := Lib.hid (H.out.below hb2); have f2 := H2.out.open_ 0; have e2 := H2.out.at_ 0; have HB2 := Lib.hid hb2; clear hb2)
    go_ret
    exact ⟨rfl, H2.out.set 0 _, (((Oth.refl p w).alloc (Nat.le_of_lt HL.out) _).trans (Oth.of HB2.out (Nat.le_of_lt H.out.lt))).set 0 _⟩
set_option maxHeartbeats 4000000 in
theorem walkC_any (p q : Nat) (slots : Bool) (hqp : q < p) (hgp : 0 < p) : ∀ (e : Ex) (cs : List Value) (d : Nat) (r : Bool) (w : World), ExAt w p e cs → Cel w p tBo #[.bool r] → w.cell? ⟨q, 0, none⟩ = some (.bool slots) → Signs w → Lim e → d ≤ 9 →
    Calls Tryd.prog 94 #[.agg cs.toArray, .int .i64 (d : Int), .func (.func 95) #[] #[.pointer (some ⟨p, 0, none⟩), .pointer (some ⟨q, 0, none⟩)]] w fun x w' => ∃ r', x = .returned (.bool (decide (d + hgt e ≤ 9))) ∧ Cel w' p tBo #[.bool r'] ∧ (d + hgt e ≤ 9 → r' = (r && rightB slots e)) ∧ Oth p w w' := by
  refine Ex.byKids fun k o vk vn vs nm kids ih cs d r w h hc hq hsg hlim hd => ?_
  obtain ⟨A, kn, c, rfl, hkn, hcl, hcap, -, hk⟩ := ex_open h
  obtain ⟨hvs, hnm, hlk⟩ := (lim_mk _ _ _ _ _ _ _).1 hlim
  rw [hgt_mk, rightB_mk]
  have hkm : kn ≤ maxLen := by rw [hkn]; exact Nat.le_trans hcl hcap
  unfold maxLen at hkm
  have hpw := hc.lt
  have hb0 := (Oth.refl p w).alloc (Nat.le_of_lt hpw) (.cells #[.int .i64 k, .int .i64 o, .int .i64 vk, .int .i64 vn, .string (txt vs), .string (txt nm), .slice A kn c] tE)
  have hx0 : (w.alloc (.cells #[.int .i64 k, .int .i64 o, .int .i64 vk, .int .i64 vn, .string (txt vs), .string (txt nm), .slice A kn c] tE)).cell? ⟨q, 0, none⟩ = some (.bool slots) := (hb0.1.cell (p := ⟨q, 0, none⟩) hqp).trans hq
  obtain ⟨r1, hr1⟩ : ∃ r1, (r && headB slots k o vk vn vs nm kn) = r1 := ⟨_, rfl⟩
  have hbox : Cel (w.alloc (.cells #[.int .i64 k, .int .i64 o, .int .i64 vk, .int .i64 vn, .string (txt vs), .string (txt nm), .slice A kn c] tE)) w.heap.size tE #[.int .i64 k, .int .i64 o, .int .i64 vk, .int .i64 vn, .string (txt vs), .string (txt nm), .slice A kn c] := Cel.new w tE _ rfl
  have HX := Lib.hid (fun W (hW : Oth p (w.alloc (.cells #[.int .i64 k, .int .i64 o, .int .i64 vk, .int .i64 vn, .string (txt vs), .string (txt nm), .slice A kn c] tE)) W) => (show W.cell? ⟨w.heap.size, 6, none⟩ = some (.slice A kn c) from (hW.cel (by omega) hbox).at_ 6))
  have hv := seenC_any k o vk vn vs nm A kn c d p q r slots (w.alloc (.cells #[.int .i64 k, .int .i64 o, .int .i64 vk, .int .i64 vn, .string (txt vs), .string (txt nm), .slice A kn c] tE)) (hsg.below hb0.1 hgp) (hc.alloc _) hx0 hqp hvs hnm
  rw [hr1] at hv
  have HB0 := Lib.hid hb0
  have HK := Lib.hid hk
  have HN := Lib.hid hkn
  have HR1 := Lib.hid hr1
  have HQ := Lib.hid hq
  have HSG := Lib.hid hsg
  have HLK := Lib.hid hlk
  by_cases h8 : d ≤ 8
  · have t8 : decide ((d : Int) ≤ 8) = true := decide_eq_true (by omega)
    rw [t8] at hv
    have HV := Lib.hid hv
    clear hk h hkn hb0 hpw hc hbox hv hx0 hq hsg hlim hlk hr1 hcl hcap hvs hnm
    go_enter Tryd.func94, Tryd.ntmps94
    go_wp2_with (go_at_call 95; (with_reducible refine HV.out.mono ?_); rintro e' w1 ⟨rfl, hc1, hb1⟩; have HC1 := Lib.hid hc1; have x6 := HX.out _ hb1; have HB1 := Lib.hid (HB0.out.trans hb1); clear hc1 hb1)
    clear x6
    go_loopw [17] (fun i wr => ∃ (j : Nat) (x : Bool), j ≤ kn ∧ i = .int .i64 (j : Int) ∧ Hid (d + hgtL (kids.take j) ≤ 8 ∧ x = (r1 && rightL slots (kids.take j))) ∧ Hid (Cel wr p tBo #[.bool x]) ∧ Hid (Oth p w wr)) (fun i _ => kn + 1 - (intOf i).toNat)
    case atStart => exact ⟨0, r1, Nat.zero_le _, rfl, Lib.hid ⟨by rw [List.take_zero, hgtL]; omega, by rw [List.take_zero, rightL, Bool.and_true]⟩, HC1, HB1⟩
    case round =>
      obtain ⟨j, x, hj, rfl, HL, HC, HB⟩ := hrel
      by_cases hlt : j < kn
      · obtain ⟨y, hy⟩ := kid_some (l := kids) (j := j) (by have := HN.out; omega)
        obtain ⟨k', o', vk', vn', vs', nm', ks', A', n', c', b, z, e, rfl, hb, hn', c0, c1, c2, c3, c4, c5, c6, hin⟩ := kid_at HK.out hy
        have hgy := hgtL_mem (kid_mem hy)
        obtain ⟨lw, hlw⟩ : ∃ lw, decide (d + 1 + hgt y ≤ 9) = lw := ⟨_, rfl⟩
        have HI := Lib.hid (fun W (hW : Oth p w W) (hWc : Cel W p tBo #[.bool x]) => (show Calls Tryd.prog 94 #[exV k' o' vk' vn' (txt vs') (txt nm') A' n' c', .int .i64 ((d : Int) + 1), .func (.func 95) #[] #[.pointer (some ⟨p, 0, none⟩), .pointer (some ⟨q, 0, none⟩)]] W fun u w' => ∃ r', u = .returned (.bool lw) ∧ Cel w' p tBo #[.bool r'] ∧ (d + 1 + hgt y ≤ 9 → r' = (x && rightB slots y)) ∧ Oth p W w' from by
          rw [← hlw]
          exact ih y (kid_mem hy) _ (d + 1) x W (ExAt.below hin hW.1) hWc ((hW.1.cell (p := ⟨q, 0, none⟩) hqp).trans HQ.out) (HSG.out.below hW.1 hgp) (HLK.out y (kid_mem hy)) (by omega)))
        have HT := Lib.hid (show hgtL (kids.take (j + 1)) = max (hgtL (kids.take j)) (hgt y) ∧ rightL slots (kids.take (j + 1)) = (rightL slots (kids.take j) && rightB slots y) by rw [List.take_add_one, hy]; exact ⟨hgtL_snoc _ _, rightL_snoc _ _⟩)
        have c0 := (HB.out.1.cell hb).trans c0
        have c1 := (HB.out.1.cell hb).trans c1
        have c2 := (HB.out.1.cell hb).trans c2
        have c3 := (HB.out.1.cell hb).trans c3
        have c4 := (HB.out.1.cell hb).trans c4
        have c5 := (HB.out.1.cell hb).trans c5
        have c6 := (HB.out.1.cell hb).trans c6
        have hpr := HC.out.lt
        have HBk := Lib.hid (HB.out.alloc (Nat.le_of_lt hpr) (.cells #[.int .i64 k', .int .i64 o', .int .i64 vk', .int .i64 vn', .string (txt vs'), .string (txt nm'), .slice A' n' c'] tE))
        have HCk := Lib.hid (HC.out.alloc (.cells #[.int .i64 k', .int .i64 o', .int .i64 vk', .int .i64 vn', .string (txt vs'), .string (txt nm'), .slice A' n' c'] tE))
        have tl : decide ((j : Int) < (kn : Int)) = true := decide_eq_true (by omega)
        cases lw with
        | true =>
          have hl9 : d + 1 + hgt y ≤ 9 := of_decide_eq_true hlw
          have HL9 := Lib.hid hl9
          clear hin hn' e hy hlw hpr hgy hl9
          go_wp2_with (go_at_call 94; (with_reducible refine (HI.out _ HBk.out HCk.out).mono ?_); rintro e' w2 ⟨r', rfl, hc2, hr', hb2⟩; have HC2 := Lib.hid hc2; have HB2 := Lib.hid (HBk.out.trans hb2); have HR' := Lib.hid (hr' HL9.out); clear hc2 hb2 hr')
          go_roundw
          case rel => exact ⟨j + 1, r', by omega, by go_num, Lib.hid ⟨by have := HT.out.1; have := HL.out.1; have := HL9.out; omega, by rw [HR'.out, HL.out.2, HT.out.2, Bool.and_assoc]⟩, HC2, HB2⟩
          case measure => simp [intOf]; omega
        | false =>
          have hl9 : ¬ d + 1 + hgt y ≤ 9 := of_decide_eq_false hlw
          have HF := Lib.hid (show ¬ d + (hgtL kids + 1) ≤ 9 by omega)
          clear hin hn' e hy hlw hpr hgy hl9
          go_wp2_with (go_at_call 94; (with_reducible refine (HI.out _ HBk.out HCk.out).mono ?_); rintro e' w2 ⟨r', rfl, hc2, hr', hb2⟩; have HC2 := Lib.hid hc2; have HB2 := Lib.hid (HBk.out.trans hb2); clear hc2 hb2 hr')
          go_ret
          exact ⟨r', by rw [decide_eq_false HF.out]; rfl, HC2.out, fun g => absurd g HF.out, HB2.out⟩
      · have tl : decide ((j : Int) < (kn : Int)) = false := decide_eq_false (by omega)
        have hd2 : kids.take j = kids := List.take_of_length_le (by have := HN.out; omega)
        rw [hd2] at HL
        go_wp2
        go_ret
        exact ⟨x, by rw [decide_eq_true (show d + (hgtL kids + 1) ≤ 9 by have := HL.out.1; omega)]; rfl, HC.out, fun _ => by rw [HL.out.2, ← HR1.out, HN.out, Bool.and_assoc, Bool.and_comm (headB _ _ _ _ _ _ _ _)], HB.out⟩
  · have t8 : decide ((d : Int) ≤ 8) = false := decide_eq_false (by omega)
    rw [t8] at hv
    have HV := Lib.hid hv
    have HF := Lib.hid (show ¬ d + (hgtL kids + 1) ≤ 9 by omega)
    clear hk h hkn hb0 hpw hc hbox hv hx0 hq hsg hlim hlk hr1 hcl hcap hvs hnm
    go_enter Tryd.func94, Tryd.ntmps94
    go_wp2_with (go_at_call 95; (with_reducible refine HV.out.mono ?_); rintro e' w1 ⟨rfl, hc1, hb1⟩; have HC1 := Lib.hid hc1; have HB1 := Lib.hid (HB0.out.trans hb1); clear hc1 hb1)
    go_ret
    exact ⟨r1, by rw [decide_eq_false HF.out]; rfl, HC1.out, fun g => absurd g HF.out, HB1.out⟩
end Go.Proofs.YtbdippgamlknbaaDoor.Ep
namespace Go.Proofs.YtbdippgamlknbaaDoor.Ep
open Go.RowKit Go.Proofs.YtbdippgamlknbaaDoor.Mem Go.Proofs.YtbdippgamlknbaaDoor.Right Go.Proofs.YtbdippgamlknbaaDoor.Lx
set_option linter.unusedVariables false
set_option maxHeartbeats 2000000 in
theorem check_any (e : Ex) (cs : List Value) (slots : Bool) (w : World) (h : ExAt w w.heap.size e cs) (hs : Signs w) (hl : Lim e) :
    Calls Tryd.prog 54 #[.agg cs.toArray, .bool slots] w fun x w' => x = .returned (.int .i64 (checkE slots e)) ∧ Below w.heap.size w w' := by
  have hcs := h
  obtain ⟨k, o, vk, vn, vs, nm, kids⟩ := e
  obtain ⟨A, kn, c, rfl, -⟩ := ex_open h
  obtain ⟨e, he⟩ : ∃ e, Ex.mk k o vk vn vs nm kids = e := ⟨_, rfl⟩
  rw [he] at hcs hl ⊢
  clear he h
  have hb : Below w.heap.size w (((w.alloc (.cells #[.int .i64 k, .int .i64 o, .int .i64 vk, .int .i64 vn, .string (txt vs), .string (txt nm), .slice A kn c] tE)).alloc (.cells #[.bool slots] tBo)).alloc (.cells #[.bool true] tBo)) := al (al (al (Below.refl _ _) _) _) _
  have hq : (((w.alloc (.cells #[.int .i64 k, .int .i64 o, .int .i64 vk, .int .i64 vn, .string (txt vs), .string (txt nm), .slice A kn c] tE)).alloc (.cells #[.bool slots] tBo)).alloc (.cells #[.bool true] tBo)).cell? ⟨w.heap.size + 1, 0, none⟩ = some (.bool slots) :=
    ((Cel.new (w.alloc (.cells #[.int .i64 k, .int .i64 o, .int .i64 vk, .int .i64 vn, .string (txt vs), .string (txt nm), .slice A kn c] tE)) tBo #[.bool slots] (B := w.heap.size + 1) (by simp)).alloc _).at_ 0
  have hp : Cel (((w.alloc (.cells #[.int .i64 k, .int .i64 o, .int .i64 vk, .int .i64 vn, .string (txt vs), .string (txt nm), .slice A kn c] tE)).alloc (.cells #[.bool slots] tBo)).alloc (.cells #[.bool true] tBo)) (w.heap.size + 1 + 1) tBo #[.bool true] := Cel.new _ tBo _ (by simp)
  have hx := walkC_any (w.heap.size + 1 + 1) (w.heap.size + 1) slots (by omega) (by have := hs.lt; omega) e _ 1 true _ (ExIn.to (fun b hb' => by omega) (fun q hq' => hb.cell hq') e _ hcs) hp hq (hs.below hb hs.lt) hl (by omega)
  rw [show ((1 : Nat) : Int) = 1 from rfl] at hx
  have HB := Lib.hid hb
  clear hcs hb hq hp hs hl
  cases h9 : decide (1 + hgt e ≤ 9) with
  | false =>
    rw [h9] at hx
    have HX := Lib.hid hx
    have HE := Lib.hid (show checkE slots e = 17 by unfold checkE; rw [if_pos (by have := of_decide_eq_false h9; omega)])
    clear hx h9
    go_enter Tryd.func54, Tryd.ntmps54
    go_wp2_with (go_at_call 94; (with_reducible refine HX.out.mono ?_); rintro e' w2 ⟨r', rfl, hc2, hr', hb2⟩; have HB2 := Lib.hid (HB.out.trans (hb2.1.mono (by omega))); clear hc2 hr' hb2)
    go_ret
    exact ⟨ri HE.out.symm, HB2.out⟩
  | true =>
    rw [h9] at hx
    have h9' := of_decide_eq_true h9
    obtain ⟨rr, hrr⟩ : ∃ rr, rightB slots e = rr := ⟨_, rfl⟩
    have HE := Lib.hid (show checkE slots e = if rr = true then 0 else 2 by unfold checkE; rw [if_neg (by omega), hrr])
    rw [hrr] at hx
    have HX := Lib.hid hx
    have H9 := Lib.hid h9'
    clear hx h9 h9' hrr
    cases rr with
    | true =>
      go_enter Tryd.func54, Tryd.ntmps54
      go_wp2_with (go_at_call 94; (with_reducible refine HX.out.mono ?_); rintro e' w2 ⟨r', rfl, hc2, hr', hb2⟩; obtain rfl : r' = true := (hr' H9.out); have z0 := hc2.at_ 0; have HB2 := Lib.hid (HB.out.trans (hb2.1.mono (by omega))); clear hc2 hr' hb2)
      go_ret
      exact ⟨ri HE.out.symm, HB2.out⟩
    | false =>
      go_enter Tryd.func54, Tryd.ntmps54
      go_wp2_with (go_at_call 94; (with_reducible refine HX.out.mono ?_); rintro e' w2 ⟨r', rfl, hc2, hr', hb2⟩; obtain rfl : r' = false := (hr' H9.out); have z0 := hc2.at_ 0; have HB2 := Lib.hid (HB.out.trans (hb2.1.mono (by omega))); clear hc2 hr' hb2)
      go_ret
      exact ⟨ri HE.out.symm, HB2.out⟩
end Go.Proofs.YtbdippgamlknbaaDoor.Ep
namespace Go.Proofs.YtbdippgamlknbaaDoor.Ep
open Go.ChangeShapes Go.WideShapes Go.ChangeAt Go.RowKit Go.Proofs.YtbdippgamlknbaaDoor.Mem Go.Proofs.YtbdippgamlknbaaDoor.Right
set_option linter.unusedVariables false
/-- How this program has expressions. -/
theorem hasEx : HasEx Tryd.prog 38 35 36 where
  ex := ⟨_, _, _, _, _, Tryd.underlying38, ⟨rfl, rfl, rfl, rfl, rfl⟩, rfl, rfl, ⟨Tryd.underlying3, by kernel_rfl⟩, ⟨Tryd.underlying3, by kernel_rfl⟩, ⟨Tryd.underlying9, by kernel_rfl⟩⟩
  val := ⟨_, _, _, Tryd.underlying35, ⟨rfl, rfl, rfl⟩, ⟨Tryd.underlying3, by kernel_rfl⟩, ⟨Tryd.underlying3, by kernel_rfl⟩, ⟨Tryd.underlying9, by kernel_rfl⟩⟩
  list := Tryd.underlying36
  size := ⟨by kernel_rfl, by kernel_rfl, by kernel_rfl⟩
section
variable {H : Type} {enc : TypeId × Value → H} {W : World}
set_option maxRecDepth 100000 in
theorem open_exv {r : Reach} {b0 : Nat} {v : Value} {d : DataW H} {p : List MemPlace} (hv : Value.okWide Tryd.prog W r b0 38 v) (h : DataW.Trod enc Tryd.prog W 0 (fun _ => true) true 38 v d p) :
    ∃ cs e, v = .agg (List.toArray cs) ∧ ExAt W W.heap.size e cs ∧ Fine e := by
  obtain ⟨cs, rfl, hsz⟩ := okWide_struct Tryd.underlying38 hv
  obtain ⟨fuel, hf⟩ := h
  obtain ⟨e, h1, h2⟩ := open_ex hasEx fuel cs.toList _ hf
  exact ⟨cs.toList, e, rfl, h1, h2⟩
end
end Go.Proofs.YtbdippgamlknbaaDoor.Ep
