/- A value as an expression, the document's: registrarref16.lit. The document's filled tree (registrarref16.filled): any tree whose parameters are there. -/
import Derived.Test.YtbdippgamlknbaaGreatDoorKs32
import Derived.Deep.RegionLaw
import Derived.Deep.CutRange
import Derived.Test.YtbdippgamlknbaaGreatDoorKs33
import Derived.Test.YtbdippgamlknbaaGreatDoorKs23
namespace Go.Proofs.YtbdippgamlknbaaGreatDoor.Eo
open Go.RowKit Go.Proofs.YtbdippgamlknbaaGreatDoor.Mem Go.Proofs.YtbdippgamlknbaaGreatDoor.Right Go.Proofs.YtbdippgamlknbaaGreatDoor.Lx Go.Proofs.YtbdippgamlknbaaGreatDoor.Ep Go.Proofs.YtbdippgamlknbaaGreatDoor.Ev
set_option linter.unusedVariables false
set_option linter.unusedSimpArgs false
set_option maxRecDepth 20000 in
set_option maxHeartbeats 1000000 in
theorem lt_plain (v : Vv) (h : v.k ≠ 1 ∨ 0 ≤ v.n) (w : World) : Calls Tryz.prog 77 #[vV v] w (TreE w (lit v.k v.n v.s)) := by
  obtain ⟨k, n, s⟩ := v
  replace h : k ≠ 1 ∨ 0 ≤ n := h
  show Calls _ _ _ _ (TreE w (lit k n s))
  by_cases h1 : k = 1
  · subst h1
    have t1 : decide (0 ≤ n) = true := decide_eq_true (by omega)
    clear h
    go_enter Tryz.func77, Tryz.ntmps77
    go_wp2
    (try simp only [Exit.inBlock, Exit.then])
    refine bodyPost_ret (v := .agg #[.int .i64 1, .int .i64 0, .int .i64 1, .int .i64 n, .string (txt s), .string ⟨#[]⟩, .slice none 0 0]) (by simp [results, Tryz.results77, go_sem]) rfl ?_
    exact ⟨1, 0, 1, n, s, [], none, 0, 0, rfl, lit_in 1 n s, al (al (Below.refl _ _) _) _⟩
  · have t1 := bne_yes h1
    clear h h1
    go_enter Tryz.func77, Tryz.ntmps77
    go_wp2
    (try simp only [Exit.inBlock, Exit.then])
    refine bodyPost_ret (v := .agg #[.int .i64 1, .int .i64 0, .int .i64 k, .int .i64 n, .string (txt s), .string ⟨#[]⟩, .slice none 0 0]) (by simp [results, Tryz.results77, go_sem]) rfl ?_
    exact ⟨1, 0, k, n, s, [], none, 0, 0, rfl, lit_in k n s, al (al (Below.refl _ _) _) _⟩
set_option maxRecDepth 20000 in
set_option maxHeartbeats 1000000 in
theorem lt_neg (n : Int) (s : List UInt8) (h : n < 0) (h2 : -9223372036854775808 < n) (w : World) : Calls Tryz.prog 77 #[vV ⟨1, n, s⟩] w (TreE w (un 1 (lit 1 (-n) []))) := by
  have t1 : decide (0 ≤ n) = false := decide_eq_false (by omega)
  have t2 : (n == -9223372036854775808) = false := Right.beq_no (by omega)
  have t3 : -9223372036854775808 ≤ -n := by omega
  have t4 : -n ≤ 9223372036854775807 := by omega
  go_enter Tryz.func77, Tryz.ntmps77
  go_wp2
  (try simp only [Exit.inBlock, Exit.then])
  refine bodyPost_ret (v := .agg #[.int .i64 4, .int .i64 1, .int .i64 0, .int .i64 0, .string ⟨#[]⟩, .string ⟨#[]⟩, .slice (some ⟨w.heap.size + 1 + 1, 0, none⟩) 1 1]) (by simp [results, Tryz.results77, go_sem]) rfl ?_
  refine ⟨4, 1, 0, 0, [], [], some ⟨w.heap.size + 1 + 1, 0, none⟩, 1, 1, rfl, ?_, al (al (al (al (Below.refl _ _) _) _) _) _⟩
  exact un_in (t := 26) (ca := [.int .i64 1, .int .i64 0, .int .i64 1, .int .i64 (-n), .string ⟨#[]⟩, .string ⟨#[]⟩, .slice none 0 0]) ((Cel.new _ _ _ (by simp)).alloc _) ⟨by omega, by simp⟩ (lit_in 1 (-n) [])
set_option maxRecDepth 20000 in
set_option maxHeartbeats 1000000 in
theorem lt_least (s : List UInt8) (w : World) : Calls Tryz.prog 77 #[vV ⟨1, -9223372036854775808, s⟩] w (TreE w (bin 10 (un 1 (lit 1 9223372036854775807 [])) (lit 1 1 []))) := by
  go_enter Tryz.func77, Tryz.ntmps77
  go_wp2
  (try simp only [Exit.inBlock, Exit.then])
  refine bodyPost_ret (v := .agg #[.int .i64 5, .int .i64 10, .int .i64 0, .int .i64 0, .string ⟨#[]⟩, .string ⟨#[]⟩, .slice (some ⟨w.heap.size + 1 + 1 + 1 + 1, 0, none⟩) 2 2]) (by simp [results, Tryz.results77, go_sem]) rfl ?_
  refine ⟨5, 10, 0, 0, [], [], some ⟨w.heap.size + 1 + 1 + 1 + 1, 0, none⟩, 2, 2, rfl, ?_, al (al (al (al (al (Below.refl _ _) _) _) _) _) _⟩
  refine bi_in (t := 26) (ca := [.int .i64 4, .int .i64 1, .int .i64 0, .int .i64 0, .string ⟨#[]⟩, .string ⟨#[]⟩, .slice (some ⟨w.heap.size + 1 + 1, 0, none⟩) 1 1]) (cc := [.int .i64 1, .int .i64 0, .int .i64 1, .int .i64 1, .string ⟨#[]⟩, .string ⟨#[]⟩, .slice none 0 0]) (Cel.new _ _ _ (by simp)) ⟨by omega, by simp⟩ ?_ (lit_in 1 1 [])
  exact un_in (t := 26) (ca := [.int .i64 1, .int .i64 0, .int .i64 1, .int .i64 9223372036854775807, .string ⟨#[]⟩, .string ⟨#[]⟩, .slice none 0 0]) (((Cel.new _ _ _ (by simp)).alloc _).alloc _) ⟨by omega, by simp⟩ (lit_in 1 9223372036854775807 [])
/-- Any value as an expression. -/
theorem lt_any (v : Vv) (h : -9223372036854775808 ≤ v.n) (w : World) : Calls Tryz.prog 77 #[vV v] w (TreE w (litX v)) := by
  unfold litX
  by_cases c : v.k ≠ 1 ∨ 0 ≤ v.n
  · rw [if_pos c]; exact lt_plain v c w
  · rw [if_neg c]
    obtain ⟨k, n, s⟩ := v
    replace c : ¬ (k ≠ 1 ∨ 0 ≤ n) := c
    replace h : -9223372036854775808 ≤ n := h
    obtain rfl : k = 1 := by omega
    show Calls _ _ _ _ (TreE w (if n = -9223372036854775808 then bin 10 (un 1 (lit 1 9223372036854775807 [])) (lit 1 1 []) else un 1 (lit 1 (-n) [])))
    by_cases d : n = -9223372036854775808
    · subst d; rw [if_pos rfl]; exact lt_least s w
    · rw [if_neg d]; exact lt_neg n s (by omega) (by omega) w
end Go.Proofs.YtbdippgamlknbaaGreatDoor.Eo
namespace Go.Proofs.YtbdippgamlknbaaGreatDoor.Eo
open Go.RowKit Go.Proofs.YtbdippgamlknbaaGreatDoor.Mem Go.Proofs.YtbdippgamlknbaaGreatDoor.Right Go.Proofs.YtbdippgamlknbaaGreatDoor.Lx Go.Proofs.YtbdippgamlknbaaGreatDoor.Ep Go.Proofs.YtbdippgamlknbaaGreatDoor.Ev Go.Deep
set_option linter.unusedVariables false
set_option linter.unusedSimpArgs false
/-- What filled is asked, and leaves. -/
def FilRS (A : Option Addr) (n c : Nat) (vs : List Vl) (x : Ex) : Prop := ∀ (cs : List Value) (w : World), ExAt w w.heap.size x cs → Vals w w.heap.size A vs → AtU n x → size x ≤ 1000 →
  Calls Tryz.prog 44 #[.agg cs.toArray, .slice A n c] w (TreE w (fill (vs.map vv) x))
/-- The filled tree on the way: its own box, and the kids so far. -/
def OutR (b0 : Nat) (k o vk vn : Int) (s nm : List UInt8) (l : List Ex) (w : World) : Prop := ∃ (S : Nat → Prop) (A : Option Addr) (c : Nat), Cel w b0 tE #[.int .i64 k, .int .i64 o, .int .i64 vk, .int .i64 vn, .string (txt s), .string (txt nm), .slice A l.length c] ∧
  OwnT w (b0 + 1) tE S (.slice A l.length c) l ∧ ∀ b, S b → b0 + 1 ≤ b ∧ b < w.heap.size ∧ some b ≠ (Value.slice A l.length c).ownBlock
/-- One kid more. -/
theorem OutR.put {b0 : Nat} {k o vk vn : Int} {s nm : List UInt8} {l' : List Ex} {w1 w' : World} {A A' : Option Addr} {c c' m m' : Nat} {S : Nat → Prop} (hc : Cel w1 b0 tE #[.int .i64 k, .int .i64 o, .int .i64 vk, .int .i64 vn, .string (txt s), .string (txt nm), .slice A m c])
    (hl : ∀ g, (Value.slice A m c).ownBlock = some g → b0 + 1 ≤ g) (ho : OwnT w' (b0 + 1) tE S (.slice A' m' c') l') (hm : m' = l'.length) (hg : w1.grownBy w' (Value.slice A m c).ownBlock) (hS : ∀ b, S b → b0 + 1 ≤ b ∧ b < w1.heap.size ∧ some b ≠ (Value.slice A' m' c').ownBlock) :
    OutR b0 k o vk vn s nm l' (w'.setCell ⟨b0, 6, none⟩ (.slice A' m' c')) := by
  subst hm
  have hc' : Cel w' b0 tE _ := (hg.block b0 hc.lt (fun e => by have := hl _ e.symm; omega)).trans hc
  have hsz : w1.heap.size ≤ w'.heap.size := hg.size
  refine ⟨S, A', c', hc'.set 6 _, ho.kept (grown_set _) ?_ fun b hb => ⟨Nat.lt_of_lt_of_le (hS b hb).2.1 hsz, fun e => by have := (hS b hb).1; have := Option.some.inj e; omega⟩, fun b hb => ⟨(hS b hb).1, by rw [World.size_setCell]; exact Nat.lt_of_lt_of_le (hS b hb).2.1 hsz, (hS b hb).2.2⟩⟩
  cases hv : (Value.slice A' l'.length c').ownBlock with
  | none => exact .inl rfl
  | some g => exact .inr fun e => by have := (ho.lt g hv).1; have := Option.some.inj e; omega
theorem on_grown {b0 : Nat} {w w1 w' : World} {S : Nat → Prop} {v : Value} {l : List Ex} (h : Below b0 w w1) (hb0 : b0 ≤ w1.heap.size) (hg : w1.grownBy w' v.ownBlock) (ho : OwnT w (b0 + 1) tE S v l) : Below b0 w w' :=
  ⟨hg.os.trans h.os, hg.tape.trans h.tape, hg.output.trans h.output, Nat.le_trans h.size hg.size, fun b hb => (hg.block b (Nat.lt_of_lt_of_le hb hb0) (fun e => by have := (ho.lt b e.symm).1; omega)).trans (h.block b hb)⟩
set_option maxRecDepth 100000 in
set_option maxHeartbeats 8000000 in
theorem filled_any {A : Option Addr} {n c : Nat} {vs : List Vl} (hn : n = vs.length) (hm : n ≤ 1000000) (hb : ∀ v ∈ vs, (-9223372036854775808 ≤ v.n ∧ v.n ≤ 9223372036854775807) ∧ v.s.size ≤ maxLen) : ∀ x : Ex, FilRS A n c vs x := by
  refine Ex.byKids fun k o vk vn s nm kids ih cs w hx hV hU hz => ?_
  obtain ⟨A', N, c', rfl, hN, hnc, hcm, hA, hk⟩ := ex_open hx
  obtain ⟨V, hVW⟩ : ∃ V, (w.alloc (.cells #[.int .i64 k, .int .i64 o, .int .i64 vk, .int .i64 vn, .string (txt s), .string (txt nm), .slice A' N c'] 26)).alloc (.cells #[.int .i64 0, .int .i64 0, .int .i64 0, .int .i64 0, .string ⟨#[]⟩, .string ⟨#[]⟩, .slice none 0 0] 26) = V := ⟨_, rfl⟩
  have HBV := Lib.hid (show Below w.heap.size w V from by rw [← hVW]; exact al (al (Below.refl _ _) _) _)
  have HEC := Lib.hid (show Cel V w.heap.size 26 #[.int .i64 k, .int .i64 o, .int .i64 vk, .int .i64 vn, .string (txt s), .string (txt nm), .slice A' N c'] from by rw [← hVW]; exact ((Cel.new w _ _ rfl).alloc _))
  have HRC := Lib.hid (show Cel V (w.heap.size + 1) 26 #[.int .i64 0, .int .i64 0, .int .i64 0, .int .i64 0, .string ⟨#[]⟩, .string ⟨#[]⟩, .slice none 0 0] from by rw [← hVW]; exact (Cel.new (w.alloc _) _ _ (by simp)))
  have HSV := Lib.hid (show V.heap.size = w.heap.size + 2 from by rw [← hVW]; simp)
  have y0 := HEC.out.at_ 0
  have y1 := HEC.out.at_ 1
  have y2 := HEC.out.at_ 2
  have y3 := HEC.out.at_ 3
  have y4 := HEC.out.at_ 4
  have y5 := HEC.out.at_ 5
  have y6 := HEC.out.at_ 6
  by_cases h3 : k = 3
  · subst h3
    obtain ⟨h1, h2⟩ := ((atU_mk _ _ _ _ _ _ _ _).1 hU).1 rfl
    obtain ⟨j, rfl⟩ : ∃ j : Nat, o = (j : Int) + 1 := ⟨(o - 1).toNat, by omega⟩
    have HV := Lib.hid (show Vals V V.heap.size A vs from (hV.below HBV.out (Nat.le_refl _)).more HBV.out.size)
    obtain ⟨b, p, v, rfl, hbb, hv, v0, v1, v2⟩ := HV.out.at_ (k := j) (by omega)
    have hvb := hb v (List.mem_of_getElem? hv)
    have hfi : fill (vs.map vv) (.mk 3 ((j : Int) + 1) vk vn s nm kids) = litX (vv v) := by
      rw [fill_par', show ((j : Int) + 1 - 1).toNat = j by omega, List.getD_eq_getElem?_getD, List.getElem?_map, hv]; rfl
    rw [hfi]
    have HLT := Lib.hid (show Calls Tryz.prog 77 #[.agg #[.int .i64 v.k, .int .i64 v.n, .string v.s]] V (TreE V (litX (vv v))) from lt_any (vv v) hvb.1.1 V)
    have e1 : (j : Int) + 1 - 1 = (j : Int) := by omega
    have hjn : j < n := by omega
    have r0 := HRC.out.at_ 0
    have r1 := HRC.out.at_ 1
    have r2 := HRC.out.at_ 2
    have r3 := HRC.out.at_ 3
    have r4 := HRC.out.at_ 4
    have r5 := HRC.out.at_ 5
    have r6 := HRC.out.at_ 6
    clear hx hV hU hz hN hnc hcm hA hk ih hb hv hvb hfi hbb
    go_enter Tryz.func44, Tryz.ntmps44
    go_wp2_with (go_at_call 77; (with_reducible refine HLT.out.mono ?_); rintro e2 w2 ⟨k2, o2, vk2, vn2, vs2, nm2, A2, n2, c2, rfl, hi2, hb2⟩; have HB2 := Lib.hid hb2; have HI2 := Lib.hid hi2; clear hi2 hb2; have q0 := (HRC.out.below HB2.out).at_ 0; have q1 := (HRC.out.below HB2.out).at_ 1; have q2 := (HRC.out.below HB2.out).at_ 2; have q3 := (HRC.out.below HB2.out).at_ 3; have q4 := (HRC.out.below HB2.out).at_ 4; have q5 := (HRC.out.below HB2.out).at_ 5; have q6 := (HRC.out.below HB2.out).at_ 6; have f0 := (HRC.out.below HB2.out).open_ 0; have f1 := (HRC.out.below HB2.out).open_ 1; have f2 := (HRC.out.below HB2.out).open_ 2; have f3 := (HRC.out.below HB2.out).open_ 3; have f4 := (HRC.out.below HB2.out).open_ 4; have f5 := (HRC.out.below HB2.out).open_ 5; have f6 := (HRC.out.below HB2.out).open_ 6)
    (try simp only [Exit.inBlock, Exit.then])
    refine bodyPost_ret (v := .agg #[.int .i64 k2, .int .i64 o2, .int .i64 vk2, .int .i64 vn2, .string (txt vs2), .string (txt nm2), .slice A2 n2 c2]) (ret_x rfl rfl (seven_set (HRC.out.below HB2.out))) rfl ?_
    exact ⟨k2, o2, vk2, vn2, vs2, nm2, A2, n2, c2, rfl, in_seven (HI2.out.more fun b hb => ⟨by have := HSV.out; omega, hb.2⟩) (Nat.le_succ _), below_seven (Mem.on HBV.out HB2.out) (show w.heap.size ≤ w.heap.size + 1 by omega)⟩
  have t3 : (k == 3) = false := by simpa using h3
  have hU2 := ((atU_mk _ _ _ _ _ _ _ _).1 hU).2
  rw [size] at hz
  have hlen := sizeL_len kids
  have HN := Lib.hid hN
  have HIH := Lib.hid ih
  have HV := Lib.hid hV
  have HU := Lib.hid hU2
  have HZ := Lib.hid (show sizeL kids ≤ 1000 by omega)
  have HNB := Lib.hid (show N ≤ 1000 by omega)
  have HK := Lib.hid hk
  obtain ⟨b0, hb0⟩ : ∃ b0, V.heap.size = b0 := ⟨_, rfl⟩
  have HB0 := Lib.hid hb0
  have HFI := Lib.hid (show fill (vs.map vv) (.mk k o vk vn s nm kids) = .mk k o vk vn s nm (kids.map (fill (vs.map vv))) from fill_kids _ h3 _ _ _ _ _ _)
  rw [HFI.out]
  have hNB : N ≤ 1000 := HNB.out
  clear ih hx hV hU hU2 hz hN hnc hcm hA hk hb hlen h3 HFI hn
  go_enter Tryz.func44, Tryz.ntmps44
  go_wp2
  (try rw [hb0])
  clear y0 y1 y2 y3 y4 y5 y6
  go_loopw [6] (fun i wr => ∃ j : Nat, j ≤ N ∧ i = .int .i64 (j : Int) ∧ Hid (OutR b0 k o vk vn s nm ((kids.take j).map (fill (vs.map vv))) wr) ∧ Hid (Below b0 V wr)) (fun i _ => N + 1 - (intOf i).toNat)
  case atStart => exact ⟨0, Nat.zero_le _, rfl, Lib.hid ⟨fun _ => False, none, 0, by rw [← hb0]; exact Cel.new V _ _ rfl, OwnT.nil _ _ _ _, fun b hb => hb.elim⟩, Lib.hid (by rw [← hb0]; exact al (Below.refl _ _) _)⟩
  case round =>
    obtain ⟨j, hj, rfl, HO, HL⟩ := hrel
    have hbs := HBV.out.size
    have hbw : Below w.heap.size w wr := HBV.out.trans (HL.out.mono (by have := HB0.out; omega))
    have hew : Cel wr w.heap.size tE _ := (HL.out.block w.heap.size (by have := HB0.out; have := HSV.out; omega)).trans HEC.out
    have e6 := hew.at_ 6
    by_cases hlt : j < N
    · obtain ⟨y, hy⟩ := kid_some (l := kids) (j := j) (by have := HN.out; omega)
      have HY := Lib.hid hy
      obtain ⟨k', o', vk', vn', vs', nm', ks', A1, n1, c1, b, q, e', rfl, hbb, hn', m0, m1, m2, m3, m4, m5, m6, hin⟩ := kid_at HK.out hy
      have d0 := (hbw.cell (p := ⟨b, q + j * 7, none⟩) hbb).trans m0
      have d1 := (hbw.cell (p := ⟨b, q + j * 7 + 1, none⟩) hbb).trans m1
      have d2 := (hbw.cell (p := ⟨b, q + j * 7 + 2, none⟩) hbb).trans m2
      have d3 := (hbw.cell (p := ⟨b, q + j * 7 + 3, none⟩) hbb).trans m3
      have d4 := (hbw.cell (p := ⟨b, q + j * 7 + 4, none⟩) hbb).trans m4
      have d5 := (hbw.cell (p := ⟨b, q + j * 7 + 5, none⟩) hbb).trans m5
      have d6 := (hbw.cell (p := ⟨b, q + j * 7 + 6, none⟩) hbb).trans m6
      have HCL := Lib.hid (show Calls Tryz.prog 44 #[exV k' o' vk' vn' (txt vs') (txt nm') A1 n1 c1, .slice A n c] wr.drew (TreE wr.drew (fill (vs.map vv) y)) from HIH.out y (kid_mem hy) _ wr.drew (ExAt.on hin hbw.drew) ((HV.out.below hbw (Nat.le_refl _)).more hbw.size) (HU.out y (kid_mem hy)) (by have := sizeL_mem (kid_mem hy); have := HZ.out; omega))
      obtain ⟨L, hL⟩ : ∃ L, (kids.take j).map (fill (vs.map vv)) = L := ⟨_, rfl⟩
      have hll : L.length = j := by rw [← hL, List.length_map, List.length_take]; have := HN.out; omega
      rw [hL] at HO
      have HLL := Lib.hid hll
      obtain ⟨S, A0, c0, hob, hown, hS⟩ := HO.out
      rw [hll] at hob hown hS
      have HOB := Lib.hid hob
      have HOWN := Lib.hid hown
      have HSS := Lib.hid hS
      have HNX := Lib.hid (show (kids.take (j + 1)).map (fill (vs.map vv)) = L ++ [fill (vs.map vv) y] from by rw [List.take_add_one, hy, List.map_append, hL]; rfl)
      have l0 := hob.at_ 6
      have tl : decide ((j : Int) < (N : Int)) = true := decide_eq_true (by omega)
      clear hob hown hS hll hL hy hin hn' e' m0 m1 m2 m3 m4 m5 m6 hbb hew HO
      go_upto_region 7 with (fail)
      go_region_law (first | (go_simp; go_at_call 44; (with_reducible refine HCL.out.mono ?_); rintro e2 w2 ⟨k2, o2, vk2, vn2, vs2, nm2, A2, n2, c2, rfl, hi2, hb2⟩; have HB2 := Lib.hid (show Below wr.heap.size wr w2 from undrew hb2); have hal := al (Below.refl w2.heap.size w2) (.cells #[.int .i64 k2, .int .i64 o2, .int .i64 vk2, .int .i64 vn2, .string (txt vs2), .string (txt nm2), .slice A2 n2 c2] tE); have HBA := Lib.hid (Mem.on HB2.out hal); have HOW := Lib.hid (show OwnT (w2.alloc (.cells #[.int .i64 k2, .int .i64 o2, .int .i64 vk2, .int .i64 vn2, .string (txt vs2), .string (txt nm2), .slice A2 n2 c2] tE)) (b0 + 1) tE (fun b => S b ∨ wr.heap.size ≤ b ∧ b < w2.heap.size) (.slice A0 j c0) L from (HOWN.out.kept (grown_below (r := none) HBA.out) (by cases hv : (Value.slice A0 j c0).ownBlock with | none => exact .inl rfl | some k => exact .inr (by simp)) (fun b hb' => ⟨(HSS.out b hb').2.1, by simp⟩)).more fun b hb' => .inl hb'); have HXI := Lib.hid (show ExIn (w2.alloc (.cells #[.int .i64 k2, .int .i64 o2, .int .i64 vk2, .int .i64 vn2, .string (txt vs2), .string (txt nm2), .slice A2 n2 c2] tE)) (fun b => S b ∨ wr.heap.size ≤ b ∧ b < w2.heap.size) (fill (vs.map vv) y) [.int .i64 k2, .int .i64 o2, .int .i64 vk2, .int .i64 vn2, .string (txt vs2), .string (txt nm2), .slice A2 n2 c2] from ExIn.to (fun b hb' => .inr hb') (fun p hp => hal.cell hp.2) _ _ hi2); have hz2 := HOB.out.below HB2.out; have hz2' := HOB.out.below HBA.out; have l1 := hz2.at_ 6; have l2 := hz2'.at_ 6; have l3 : ∀ o : Obj, (w2.alloc o).cell? ⟨b0, 6, none⟩ = some (.slice A0 j c0) := (fun o => (hz2.alloc o).at_ 6); clear hi2 hb2 hal hz2 hz2') | (refine step_tree elemEx HOW.out HXI.out (.tmp 34) (.tmp 42) rfl rfl rfl rfl (heap_alloc_new w2 _) (fun b hb' => ⟨by have h1 := HB2.out.size; rcases hb' with h | h; (have := (HSS.out b h).2.1; simp; omega); (have := h.2; simp; omega), fun e => by rcases hb' with h | h; exact (HSS.out b h).2.2 e; (have := (HOWN.out.lt b e.symm).2; have := h.1; omega)⟩) HLL.out (by omega) (by unfold maxLen; omega) (by have h1 := HB2.out.size; have h2 := HOB.out.lt; simp; omega) ?_; intro g' cap w' g1 g2 g3 g4; have HG1 := Lib.hid g1; have HG2 := Lib.hid g2; have HG3 := Lib.hid g3; have hz3 : Cel w' b0 tE _ := (g2.block b0 (HOB.out.below HBA.out).lt (fun e => by have := (HOWN.out.lt b0 e.symm).1; omega)).trans (HOB.out.below HBA.out); have m6 := hz3.at_ 6; have f6 := hz3.open_ 6; clear g1 g2 g3 g4 hz3))
      all_goals
        have HOXX := Lib.hid (show OutR b0 k o vk vn s nm (L ++ [fill (vs.map vv) y]) (w'.setCell ⟨b0, 6, none⟩ (.slice (some ⟨g', 0, none⟩) (j + 1) cap)) ∧ Below b0 wr (w'.setCell ⟨b0, 6, none⟩ (.slice (some ⟨g', 0, none⟩) (j + 1) cap)) from ⟨OutR.put (HOB.out.below HBA.out) (fun g e => (HOWN.out.lt g e).1) HG1.out (by rw [List.length_append, HLL.out]; rfl) HG2.out (fun b hb' => by
                  have h1 := HB2.out.size
                  have h2 := HOB.out.lt
                  rcases hb' with h | h
                  · refine ⟨(HSS.out b h).1, by have := (HSS.out b h).2.1; simp; omega, fun e => ?_⟩
                    have hbg : b = g' := Option.some.inj e
                    rcases HG3.out with g | g
                    · exact (HSS.out b h).2.2 (by rw [g, hbg])
                    · have := (HSS.out b h).2.1; simp at g; omega
                  · refine ⟨by omega, by have := h.2; simp; omega, fun e => ?_⟩
                    have hbg : b = g' := Option.some.inj e
                    rcases HG3.out with g | g
                    · have := (HOWN.out.lt g' g).2; omega
                    · simp at g; omega), (on_grown (HBA.out.mono (Nat.le_of_lt HOB.out.lt)) (Nat.le_trans (Nat.le_of_lt HOB.out.lt) HBA.out.size) HG2.out HOWN.out).setCell (p := ⟨b0, 6, none⟩) (Nat.le_refl _) _⟩)
        (try go_wp2)
        go_roundw
        case rel => exact ⟨j + 1, by omega, by go_num, Lib.hid (by rw [HNX.out]; exact HOXX.out.1), Lib.hid (HL.out.trans HOXX.out.2)⟩
        case measure => simp [intOf]; omega
    · have tl : decide ((j : Int) < (N : Int)) = false := decide_eq_false (by omega)
      obtain rfl : j = N := by omega
      have hd2 : kids.take j = kids := List.take_of_length_le (by have := HN.out; omega)
      rw [hd2] at HO
      obtain ⟨S, A0, c0, hob, hown, hS⟩ := HO.out
      have hll : (kids.map (fill (vs.map vv))).length = j := by rw [List.length_map]; have := HN.out; omega
      rw [hll] at hob hown hS
      have HOB := Lib.hid hob
      have HOWN := Lib.hid hown
      have HSS := Lib.hid hS
      have hrw : Cel wr (w.heap.size + 1) tE _ := (HL.out.block (w.heap.size + 1) (by have := HB0.out; have := HSV.out; omega)).trans HRC.out
      have HRW := Lib.hid hrw
      have x0 := hob.at_ 0
      have x1 := hob.at_ 1
      have x2 := hob.at_ 2
      have x3 := hob.at_ 3
      have x4 := hob.at_ 4
      have x5 := hob.at_ 5
      have x6 := hob.at_ 6
      have z0 := hrw.at_ 0
      have z1 := hrw.at_ 1
      have z2 := hrw.at_ 2
      have z3 := hrw.at_ 3
      have z4 := hrw.at_ 4
      have z5 := hrw.at_ 5
      have z6 := hrw.at_ 6
      have f0 := hrw.open_ 0
      have f1 := hrw.open_ 1
      have f2 := hrw.open_ 2
      have f3 := hrw.open_ 3
      have f4 := hrw.open_ 4
      have f5 := hrw.open_ 5
      have f6 := hrw.open_ 6
      clear hob hown hS hrw hew
      go_wp2
      (try simp only [Exit.inBlock, Exit.then])
      refine bodyPost_ret (v := .agg #[.int .i64 k, .int .i64 o, .int .i64 vk, .int .i64 vn, .string (txt s), .string (txt nm), .slice A0 j c0]) (ret_x rfl rfl (seven_set HRW.out)) rfl ?_
      refine ⟨k, o, vk, vn, s, nm, A0, j, c0, rfl, in_seven ((HOWN.out.tree k o vk vn s nm).more fun b hb' => ?_) (Nat.le_succ _), below_seven hbw (show w.heap.size ≤ w.heap.size + 1 by omega)⟩
      have h1 := HSV.out
      have h2 := HB0.out
      rcases hb' with h | h
      · exact ⟨by have := (HSS.out b h).1; omega, (HSS.out b h).2.1⟩
      · exact ⟨by have := (HOWN.out.lt b h).1; omega, (HOWN.out.lt b h).2⟩
end Go.Proofs.YtbdippgamlknbaaGreatDoor.Eo
