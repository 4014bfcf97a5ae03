import Derived.Test.YtlkmhdbmcfblkaaGreatDoorExToks
import Derived.Test.YtlkmhdbmcfblkaaGreatDoorExOwns
import Derived.ChangeKeysEq
import Derived.Test.YtlkmhdbmcfblkaaGreatDoorLexLaids
import Derived.Test.YtlkmhdbmcfblkaaGreatDoorMemRows
import Derived.Test.YtlkmhdbmcfblkaaGreatDoorValMaths
import Derived.Test.YtlkmhdbmcfblkaaGreatDoorRows
import Derived.Test.YtlkmhdbmcfblkaaGreatDoorExTexts
import Derived.Test.YtlkmhdbmcfblkaaGreatDoorExMems
import Derived.Deep.LoopGhost
/- The program's parser in memory: its tokens, its place, its pile of trees, and whether something was let go; its smallest calls. -/
namespace Go.Proofs.YtlkmhdbmcfblkaaGreatDoor.Ep
open Go.RowKit Go.Proofs.YtlkmhdbmcfblkaaGreatDoor.Mem Go.Proofs.YtlkmhdbmcfblkaaGreatDoor.Right Go.Proofs.YtlkmhdbmcfblkaaGreatDoor.Lx
set_option linter.unusedVariables false

abbrev tPs : TypeId := 60
/-- Where it is. -/
abbrev pV (B : Nat) : Value := .pointer (some ⟨B, 0, none⟩)
/-- Its four cells. -/
def Pz (w : World) (B : Nat) (tk : Value) (p : Nat) (v : Value) (d : Bool) : Prop := Cel w B tPs #[tk, .int .i64 (p : Int), v, .bool d]
/-- The pile is a list of trees of the parser's own, whose kids lie elsewhere, above the parser. -/
def Pile (w : World) (B : Nat) (v : Value) (l : List Ex) : Prop := ∃ S : Nat → Prop, OwnT w (B + 1) tE S v l ∧ ∀ b, S b → B < b ∧ b < w.heap.size ∧ some b ≠ v.ownBlock
/-- The parser: at token p, these trees on its pile. -/
def Ps (w : World) (B : Nat) (tk : Value) (p : Nat) (l : List Ex) (d : Bool) : Prop := ∃ v, Pz w B tk p v d ∧ Pile w B v l
section
variable {w w' : World} {B p q : Nat} {tk v : Value} {l : List Ex} {d e : Bool}
theorem Pile.oth (h : Pile w B v l) (ho : Oth B w w') : Pile w' B v l := by
  obtain ⟨S, h1, h2⟩ := h
  have hg : w.grownBy w' (some B) := ⟨ho.1.os, ho.1.tape, ho.1.output, ho.1.size, fun k hk hr => ho.2 k hk (fun e => hr (by rw [e]))⟩
  refine ⟨S, h1.kept hg ?_ fun b hb => ⟨(h2 b hb).2.1, ?_⟩, fun b hb => ⟨(h2 b hb).1, Nat.lt_of_lt_of_le (h2 b hb).2.1 ho.size, (h2 b hb).2.2⟩⟩
  · right
    intro e
    have := (h1.lt B e).1
    omega
  · intro e
    injection e with e
    have := (h2 b hb).1
    omega
theorem Pile.below (h : Pile w B v l) (hb : Below w.heap.size w w') (hB : B < w.heap.size) : Pile w' B v l := h.oth (Oth.of hb (Nat.le_of_lt hB))
theorem Pz.lt (h : Pz w B tk p v d) : B < w.heap.size := Cel.lt h
theorem Pz.below (h : Pz w B tk p v d) (hb : Below w.heap.size w w') : Pz w' B tk p v d := Cel.below h hb
theorem Ps.below (h : Ps w B tk p l d) (hb : Below w.heap.size w w') : Ps w' B tk p l d := by
  obtain ⟨v, h1, h2⟩ := h
  exact ⟨v, h1.below hb, h2.below hb h1.lt⟩
theorem Ps.lt (h : Ps w B tk p l d) : B < w.heap.size := by
  obtain ⟨v, h1, _⟩ := h
  exact h1.lt
end
theorem past {w : World} {b o : Nat} {v : Value} (h : w.cell? ⟨b, o, none⟩ = some v) (x : Obj) : (w.alloc x).cell? ⟨b, o, none⟩ = some v := by
  rw [World.cell?_of_block (w := w) (heap_alloc_old _ _ (cell_lt h))]
  exact h
/-- Token p, cell by cell. -/
theorem tok_at {w : World} {S : Nat → Prop} {A : Option Addr} {L : List To} {p : Nat} {x : To} (h : ToksIn w S A L) (hx : L[p]? = some x) :
    ∃ b o, A = some ⟨b, o, none⟩ ∧ S b ∧ p < L.length ∧ w.cell? ⟨b, o + p * 3, none⟩ = some (.int .i64 x.kind) ∧ w.cell? ⟨b, o + p * 3 + 1, none⟩ = some (.string (Ep.txt x.text)) ∧ w.cell? ⟨b, o + p * 3 + 2, none⟩ = some (.int .i64 x.at_) := by
  obtain ⟨b, o, h1, h2, h3, h4, h5⟩ := h p x hx
  exact ⟨b, o, h1, h2, (List.getElem?_eq_some_iff.1 hx).1, h3, h4, h5⟩
theorem next_any {w : World} {B p n c : Nat} {v : Value} {d : Bool} {A : Option Addr} {L : List To} {x : To} (h : Pz w B (.slice A n c) p v d) (ht : ToksIn w (fun b => b < B) A L) (hx : L[p]? = some x) (hn : n = L.length) :
    Calls Tryz.prog 135 #[pV B] w fun e w' => e = .returned (toV x) ∧ Below w.heap.size w w' := by
  obtain ⟨b, o, rfl, hb, hp, c0, c1, c2⟩ := tok_at ht hx
  have hB := h.lt
  have HB := Lib.hid (Below.refl w.heap.size w)
  rw [← hn] at hp
  have q0 := h.at_ 0
  have q1 := h.at_ 1
  obtain ⟨k, l, a⟩ := x
  have c0 := past c0 (.cells #[.int .i64 0, .string ⟨#[]⟩, .int .i64 0] 26)
  have c1 := past c1 (.cells #[.int .i64 0, .string ⟨#[]⟩, .int .i64 0] 26)
  have c2 := past c2 (.cells #[.int .i64 0, .string ⟨#[]⟩, .int .i64 0] 26)
  clear h ht hx hn
  go_enter Tryz.func135, Tryz.ntmps135
  go_wp2
  go_region
  go_wp2
  (try simp only [Exit.inBlock, Exit.then])
  refine bodyPost_ret (v := .agg #[.int .i64 k, .string (Ep.txt l), .int .i64 a]) ?_ rfl ?_
  · simp only [results, Tryz.f135]
    go_simp
  exact ⟨rfl, (al HB.out _).drew⟩
/-- The text, or another one. -/
theorem text_or (l : List UInt8) (s : ByteArray) : s = Ep.txt l ∨ (¬ l = s.data.toList ∧ ((Ep.txt l).toList == s.toList) = false) := by
  by_cases h : l = s.data.toList
  · left; rw [h]; exact (txt_self s).symm
  · right
    refine ⟨h, ?_⟩
    rw [Lib.toList_data, Lib.toList_data]
    show (l == s.data.toList) = false
    simpa using h
set_option maxRecDepth 100000 in
theorem tok_text (k a : Int) (l : ByteArray) (w : World) : (Instr.field 26 (.agg #[.int .i64 k, .string l, .int .i64 a]) 1).run Tryz.prog w = .ok (.string l) w := by
  simp [Instr.field, run_underlying Tryz.underlying26]
  exact run_part_plain (P := Tryz.prog) (e := 9) (xs := #[.int .i64 k, .string l, .int .i64 a]) (off := 1) (v := .string l) (he := by kernel_rfl) (hx := rfl) (w := w)
section
variable {w : World} {B p n c : Nat} {v : Value} {d : Bool} {A : Option Addr} {L : List To} {x : To}
set_option maxRecDepth 100000 in
theorem skip_yes (h : Pz w B (.slice A n c) p v d) (ht : ToksIn w (fun b => b < B) A L) (hx : L[p]? = some x) (hn : n = L.length) (hL : L.length ≤ 1000) :
    Calls Tryz.prog 104 #[pV B, .string (Ep.txt x.text)] w fun e w' => e = .returned (.bool true) ∧ Pz w' B (.slice A n c) (p + 1) v d ∧ Oth B w w' := by
  have HN := Lib.hid (next_any h ht hx hn)
  have hp := (List.getElem?_eq_some_iff.1 hx).1
  have HZ := Lib.hid h
  have HO := Lib.hid (show ∀ w', Below w.heap.size w w' → Oth B w w' from fun w' hw' => Oth.of hw' (Nat.le_of_lt h.lt))
  obtain ⟨k, l, a⟩ := x
  have HN := Lib.hid (show Calls Tryz.prog 135 #[pV B] w fun e w' => e = .returned (.agg #[.int .i64 k, .string (Ep.txt l), .int .i64 a]) ∧ Below w.heap.size w w' from HN.out)
  have ft := tok_text k a (Ep.txt l)
  clear h ht hx hn
  go_enter Tryz.func104, Tryz.ntmps104
  go_wp2_with (go_at_call 135; (refine HN.out.mono ?_); rintro e' w1 ⟨rfl, hb1⟩; have HB1 := Lib.hid hb1; have HZ1 := Lib.hid (HZ.out.below hb1); have q0 := HZ1.out.at_ 0; have q1 := HZ1.out.at_ 1; have f1 := HZ1.out.open_ 1; clear hb1)
  go_ret
  refine ⟨rfl, ?_, (HO.out _ HB1.out).set _ _⟩
  have := Cel.set HZ1.out 1 (.int .i64 ((p : Int) + 1))
  exact this
set_option maxRecDepth 100000 in
theorem skip_no (h : Pz w B (.slice A n c) p v d) (ht : ToksIn w (fun b => b < B) A L) (hx : L[p]? = some x) (hn : n = L.length) (s : ByteArray) (hs : ((Ep.txt x.text).toList == s.toList) = false) :
    Calls Tryz.prog 104 #[pV B, .string s] w fun e w' => e = .returned (.bool false) ∧ Pz w' B (.slice A n c) p v d ∧ Oth B w w' := by
  have HN := Lib.hid (next_any h ht hx hn)
  have HZ := Lib.hid h
  have HO := Lib.hid (show ∀ w', Below w.heap.size w w' → Oth B w w' from fun w' hw' => Oth.of hw' (Nat.le_of_lt h.lt))
  obtain ⟨k, l, a⟩ := x
  have HN := Lib.hid (show Calls Tryz.prog 135 #[pV B] w fun e w' => e = .returned (.agg #[.int .i64 k, .string (Ep.txt l), .int .i64 a]) ∧ Below w.heap.size w w' from HN.out)
  have hs : ((Ep.txt l).toList == s.toList) = false := hs
  have ft := tok_text k a (Ep.txt l)
  clear h ht hx hn
  go_enter Tryz.func104, Tryz.ntmps104
  go_wp2_with (go_at_call 135; (refine HN.out.mono ?_); rintro e' w1 ⟨rfl, hb1⟩; have HB1 := Lib.hid hb1; have HZ1 := Lib.hid (HZ.out.below hb1); clear hb1)
  go_ret
  exact ⟨rfl, HZ1.out, HO.out _ HB1.out⟩
theorem skip_any (h : Pz w B (.slice A n c) p v d) (ht : ToksIn w (fun b => b < B) A L) (hx : L[p]? = some x) (hn : n = L.length) (hL : L.length ≤ 1000) (s : ByteArray) :
    Calls Tryz.prog 104 #[pV B, .string s] w fun e w' => e = .returned (.bool (decide (x.text = s.data.toList))) ∧ Pz w' B (.slice A n c) (if x.text = s.data.toList then p + 1 else p) v d ∧ Oth B w w' := by
  rcases text_or x.text s with rfl | ⟨h1, h2⟩
  · refine (skip_yes h ht hx hn hL).mono ?_
    rintro e w' ⟨rfl, h1, h2⟩
    have e : x.text = (Ep.txt x.text).data.toList := rfl
    exact ⟨rb (decide_eq_true e).symm, by rw [if_pos e]; exact h1, h2⟩
  · refine (skip_no h ht hx hn s h2).mono ?_
    rintro e w' ⟨rfl, h3, h4⟩
    exact ⟨rb (decide_eq_false h1).symm, by rw [if_neg h1]; exact h3, h4⟩
end
end Go.Proofs.YtlkmhdbmcfblkaaGreatDoor.Ep
/- The program's parser gives up: what its panic bears; a token that must come next. -/
namespace Go.Proofs.YtlkmhdbmcfblkaaGreatDoor.Ep
open Go.RowKit Go.Proofs.YtlkmhdbmcfblkaaGreatDoor.Mem Go.Proofs.YtlkmhdbmcfblkaaGreatDoor.Right Go.Proofs.YtlkmhdbmcfblkaaGreatDoor.Lx
set_option linter.unusedVariables false

section
variable {w : World} {B p n c : Nat} {v tk : Value} {d : Bool} {A : Option Addr} {L : List To} {x : To}
theorem fault_any (h : Pz w B tk p v d) (e : Int) :
    Calls Tryz.prog 175 #[pV B, .int .i64 e] w fun r w' => r = .returned (.agg #[.int .i64 (p : Int), .int .i64 e]) ∧ Below w.heap.size w w' := by
  have hB := h.lt
  have q1 := past (h.at_ 1) (.cells #[.int .i64 0, .int .i64 0] 57)
  have HB := Lib.hid (Below.refl w.heap.size w)
  clear h
  go_enter Tryz.func175, Tryz.ntmps175
  go_wp2
  (try simp only [Exit.inBlock, Exit.then])
  refine bodyPost_ret (v := .agg #[.int .i64 (p : Int), .int .i64 e]) ?_ rfl ?_
  · simp only [results, Tryz.f175]
    go_simp
  exact ⟨rfl, al HB.out _⟩
/-- How it gives up: the error, and at which token. -/
def gaveUp (e : Int) (p : Nat) : Ending := .panicked [{ v := .iface 57 (.agg #[.int .i64 (p : Int), .int .i64 e]), recovered := false }]
theorem must_yes (h : Pz w B (.slice A n c) p v d) (ht : ToksIn w (fun b => b < B) A L) (hx : L[p]? = some x) (hn : n = L.length) (hL : L.length ≤ 1000) :
    Calls Tryz.prog 166 #[pV B, .string (Ep.txt x.text)] w fun e w' => e = .returned (.tuple #[]) ∧ Pz w' B (.slice A n c) (p + 1) v d ∧ Oth B w w' := by
  have HS := Lib.hid (skip_yes h ht hx hn hL)
  clear h ht hx hn
  go_enter Tryz.func166, Tryz.ntmps166
  go_wp2_with (go_at_call 104; (refine HS.out.mono ?_); rintro e' w1 ⟨rfl, h1, h2⟩; have H1 := Lib.hid (And.intro h1 h2); clear h1 h2)
  go_end0
  exact ⟨rfl, H1.out⟩
theorem must_no (h : Pz w B (.slice A n c) p v d) (ht : ToksIn w (fun b => b < B) A L) (hx : L[p]? = some x) (hn : n = L.length) (s : ByteArray) (hs : ((Ep.txt x.text).toList == s.toList) = false) :
    Calls Tryz.prog 166 #[pV B, .string s] w fun e w' => e = gaveUp 16 p ∧ Oth B w w' := by
  have HS := Lib.hid (skip_no h ht hx hn s hs)
  have hB := h.lt
  clear h ht hx hn hs
  go_enter Tryz.func166, Tryz.ntmps166
  go_wp2_with (first
    | (go_at_call 104; (refine HS.out.mono ?_); rintro e' w1 ⟨rfl, h1, h2⟩; have HF := Lib.hid (fault_any h1 16); have H2 := Lib.hid (show ∀ w', Below w1.heap.size w1 w' → Oth B w w' from fun w' hw' => h2.trans (Oth.of hw' (Nat.le_of_lt h1.lt))); clear h1 h2)
    | (go_at_call 175; (refine HF.out.mono ?_); rintro e' w2 ⟨rfl, hb2⟩; have HB2 := Lib.hid (H2.out _ hb2); clear hb2))
  exact ⟨rfl, rfl, HB2.out⟩
end
end Go.Proofs.YtlkmhdbmcfblkaaGreatDoor.Ep
/- The signs between two, as the parser's own variable holds them: a slice of texts, ranks and numbers. -/
namespace Go.Proofs.YtlkmhdbmcfblkaaGreatDoor.Ep
open Go.RowKit Go.Proofs.YtlkmhdbmcfblkaaGreatDoor.Mem Go.ChangeShapes Go.WideShapes Go.Deep
set_option linter.unusedVariables false

/-- Text, rank and number of each. -/
def esl : List (List UInt8 × Int × Int) := [(kOR, 1, 1), (kAND, 2, 2), ([61], 3, 3), ([60, 62], 3, 4), ([60], 3, 5), ([60, 61], 3, 6), ([62], 3, 7), ([62, 61], 3, 8), ([43], 4, 9), ([45], 4, 10), ([124, 124], 4, 14), ([42], 5, 11), ([47], 5, 12), ([37], 5, 13)]
def sgD (x : List UInt8 × Int × Int) : DataW Unit := .agg [.lit (.string x.1), .lit (.int .i64 x.2.1), .lit (.int .i64 x.2.2)]
/-- A slice of such on the list. -/
theorem laid_sgns {P : Program} {W : World} {l : List (String × DataW Unit)} {name : String} {L : List (List UInt8 × Int × Int)} {g : Nat} {tA te t0 t1 t2 : TypeId} {k0 k1 k2 : Field} (h : laidMetH P l W) (hp : (l.all fun x => x.2.handleName?.isNone) = true)
    (hm : (name, (DataW.slice (L.map sgD) [] : DataW Unit)) ∈ l) (hg : P.globalNamed name = some g) (ht : (P.globals[g]?).map (·.type) = some tA) (hu : P.underlying tA = some (.slice te)) (hs : P.underlying te = some (.struct #[k0, k1, k2])) (hf : (k0.offset = 0 ∧ k0.type = t0) ∧ (k1.offset = 1 ∧ k1.type = t1) ∧ k2.offset = 2 ∧ k2.type = t2)
    (u0 : P.underlying t0 = some .string) (u1 : P.underlying t1 = some (.int .i64)) (u2 : P.underlying t2 = some (.int .i64)) (c0 : P.cellsOf t0 = 1) (c1 : P.cellsOf t1 = 1) (c2 : P.cellsOf t2 = 1) (c3 : P.cellsOf te = 3) (hL : 0 < L.length) :
    ∃ b o c, W.cell? ⟨g, 0, none⟩ = some (.slice (some ⟨b, o, none⟩) L.length c) ∧ ∀ (j : Nat) (x : List UInt8 × Int × Int), L[j]? = some x →
      W.cell? ⟨b, o + j * 3, none⟩ = some (.string ⟨x.1.toArray⟩) ∧ W.cell? ⟨b, o + j * 3 + 1, none⟩ = some (.int .i64 x.2.1) ∧ W.cell? ⟨b, o + j * 3 + 2, none⟩ = some (.int .i64 x.2.2) := by
  rw [MakeChecks.laidMetH_plain _ _ _ hp] at h
  obtain ⟨ps, hv, _, _⟩ := h
  obtain ⟨g0, ta, cs0, f0, p0, hg0, ht0, hv0, hd0⟩ := laid_var hv hm
  obtain rfl := Option.some.inj (hg.symm.trans hg0)
  obtain rfl := Option.some.inj (ht.symm.trans ht0)
  rcases DataW.trod_slice hu hd0 with ⟨_, hx⟩ | ⟨a, len, cap, elems, rest, q, hq, hcs, hx, _, hl, hcm, hel, hxe, _, _⟩
  · exact absurd (congrArg Prod.fst hx) (fun e => by cases e)
  have hx1 : DataW.slice (L.map sgD) [] = DataW.slice (elems.map (·.1)) (rest.map (·.1)) := congrArg Prod.fst hx
  injection hx1 with hx1 hx2
  have hlen : L.length = len := by
    have := congrArg List.length hx1
    simp at this
    omega
  have each : ∀ (j : Nat) (x : List UInt8 × Int × Int), L[j]? = some x → ∃ cs', W.cells? 0 (a.add (j * 3)) 3 = some cs' ∧ cs' = [.string ⟨x.1.toArray⟩, .int .i64 x.2.1, .int .i64 x.2.2] := fun j x hxj => by
    have hj : j < len := by
      have := (List.getElem?_eq_some_iff.1 hxj).1
      omega
    have h1 := hxe j hj
    rw [List.getElem?_eq_getElem (by omega), c3] at h1
    obtain ⟨cs', h2, h3⟩ := Option.bind_eq_some_iff.1 h1
    refine ⟨cs', h2, ?_⟩
    have he : elems[j].1 = sgD x := by
      have h4 : (elems.map (·.1))[j]? = some (sgD x) := by rw [← hx1, List.getElem?_map, hxj]; rfl
      rw [List.getElem?_map, List.getElem?_eq_getElem (by omega)] at h4
      exact Option.some.inj h4
    obtain ⟨xs, n, _, hxs, hl3, hn, hfd⟩ := DataW.trod_struct hs h3
    rw [c3] at hl3
    have hxs1 : sgD x = DataW.agg (xs.map (·.1)) := by rw [← he]; exact congrArg Prod.fst hxs
    unfold sgD at hxs1
    injection hxs1 with hxs1
    obtain ⟨⟨o0, rfl⟩, ⟨o1, rfl⟩, o2, rfl⟩ := hf
    match xs, hn, hxs1 with
      | [y0, y1, y2], _, hxs1 =>
        simp at hxs1
        obtain ⟨e0, e1, e2⟩ := hxs1
        have g0 := hfd 0 k0 rfl
        have g1 := hfd 1 k1 rfl
        have g2 := hfd 2 k2 rfl
        rw [o0, c0] at g0
        rw [o1, c1] at g1
        rw [o2, c2] at g2
        obtain ⟨s, s1, s2, _⟩ := DataW.trod_string u0 g0
        obtain ⟨n1, s3, s4, _⟩ := DataW.trod_int u1 g1
        obtain ⟨n2, s5, s6, _⟩ := DataW.trod_int u2 g2
        have r0 : y0.1 = DataW.lit (.string s.data.toList) := congrArg Prod.fst s2
        have r1 : y1.1 = DataW.lit (.int .i64 n1) := congrArg Prod.fst s4
        have r2 : y2.1 = DataW.lit (.int .i64 n2) := congrArg Prod.fst s6
        rw [r0] at e0
        rw [r1] at e1
        rw [r2] at e2
        injection e0 with e0
        injection e0 with e0
        injection e1 with e1
        injection e1 with _ e1
        injection e2 with e2
        injection e2 with _ e2
        match cs', hl3 with
        | [z0, z1, z2], _ =>
          simp at s1 s3 s5
          subst s1 s3 s5 e1 e2
          rw [e0]
  obtain ⟨b, o, s⟩ := a
  obtain ⟨x0, hx0⟩ : ∃ x, L[0]? = some x := ⟨L[0], List.getElem?_eq_getElem hL⟩
  obtain ⟨z, hz1, hz2⟩ := each 0 x0 hx0
  obtain ⟨_, hz7, hzc⟩ := World.cells?_some hz1
  have hz0 := hzc 0 (by decide)
  rw [hz2] at hz0
  have hsn : s = none := by simpa [Addr.add] using World.cell?_spot hz0
  subst hsn
  have hcell : W.cell? ⟨g, 0, none⟩ = some (.slice (some ⟨b, o, none⟩) L.length cap) := by
    have h1 := World.var?_cell hg hv0 0
    rw [h1, hlen]
    have h2 : cs0.toList[0]? = some (.slice (some ⟨b, o, none⟩) len cap) := by rw [hcs]; rfl
    simpa using h2
  refine ⟨b, o, cap, hcell, fun j x hxj => ?_⟩
  obtain ⟨cs', h1, h2⟩ := each j x hxj
  obtain ⟨_, _, hc⟩ := World.cells?_some h1
  have k0 := hc 0 (by decide)
  have k1 := hc 1 (by decide)
  have k2 := hc 2 (by decide)
  rw [h2, add_add, add_plain] at k0 k1 k2
  exact ⟨k0, by rw [Nat.add_assoc]; exact k1, by rw [Nat.add_assoc]; exact k2⟩
/-- The variable holds them; they lie below block B. -/
def Esg (w : World) (B : Nat) : Prop := ∃ b o c, b < B ∧ w.cell? ⟨0, 0, none⟩ = some (.slice (some ⟨b, o, none⟩) 14 c) ∧ ∀ (j : Nat) (x : List UInt8 × Int × Int), esl[j]? = some x →
  w.cell? ⟨b, o + j * 3, none⟩ = some (.string ⟨x.1.toArray⟩) ∧ w.cell? ⟨b, o + j * 3 + 1, none⟩ = some (.int .i64 x.2.1) ∧ w.cell? ⟨b, o + j * 3 + 2, none⟩ = some (.int .i64 x.2.2)
theorem Esg.below {w w' : World} {B B' : Nat} (h : Esg w B) (hb : Below B' w w') (hB : B ≤ B') (hg : 0 < B') : Esg w' B := by
  obtain ⟨b, o, c, h1, h2, h3⟩ := h
  have hk : ∀ i, w'.cell? ⟨b, i, none⟩ = w.cell? ⟨b, i, none⟩ := fun i => hb.cell (p := ⟨b, i, none⟩) (by show b < B'; omega)
  refine ⟨b, o, c, h1, (hb.cell hg).trans h2, fun j x hx => ?_⟩
  rw [hk, hk, hk]
  exact h3 j x hx
theorem esg_of_laid {l : List (String × DataW Unit)} {W : World} (h : laidMetH Tryz.prog l W) (hp : (l.all fun x => x.2.handleName?.isNone) = true) (hm : ("registrar/exparse.signs", (Rows.laid_registrar_exparse_signs : DataW Unit)) ∈ l) : Esg W W.heap.size := by
  obtain ⟨b, o, c, h1, h2⟩ := laid_sgns (L := esl) (t0 := 9) (t1 := 3) (t2 := 3) h hp hm (by kernel_rfl) (by kernel_rfl) Tryz.underlying138 Tryz.underlying140 ⟨⟨rfl, rfl⟩, ⟨rfl, rfl⟩, rfl, rfl⟩ Tryz.underlying9 Tryz.underlying3 Tryz.underlying3 (by kernel_rfl) (by kernel_rfl) (by kernel_rfl) (by kernel_rfl) (by decide)
  exact ⟨b, o, c, cell_lt (h2 0 _ rfl).1, h1, h2⟩
end Go.Proofs.YtlkmhdbmcfblkaaGreatDoor.Ep
/- Where reading goes on: no part without a token, and never behind the end. -/
namespace Go.Proofs.YtlkmhdbmcfblkaaGreatDoor.Ep
open Go.Proofs.YtlkmhdbmcfblkaaGreatDoor.Lx
set_option linter.unusedVariables false

/-- Tokens, the last one the end, there alone. -/
def Wf (L : List Tt) : Prop := L ≠ [] ∧ ∀ p, p < L.length → RT (tk L p) ∧ ((tk L p).1 = 7 ↔ p + 1 = L.length)
theorem Wf.rts {L : List Tt} (h : Wf L) : RTs L := fun p => by
  rcases Nat.lt_or_ge p L.length with hp | hp
  · exact (h.2 p hp).1
  · unfold tk
    rw [List.getElem?_eq_none hp]
    exact rfl
theorem Wf.on {L : List Tt} (h : Wf L) {p : Nat} (hp : p < L.length) (hk : (tk L p).1 ≠ 7) : p + 1 < L.length := by
  have := (h.2 p hp).2
  have : p + 1 ≠ L.length := fun e => hk (this.2 e)
  omega
theorem Wf.isT {L : List Tt} (h : Wf L) {p : Nat} {w : List UInt8} (hp : p < L.length) (ht : isT L p w = true) : p + 1 < L.length := by
  refine h.on hp fun e => ?_
  unfold Ep.isT at ht
  rw [e] at ht
  simp at ht
theorem Wf.sg {L : List Tt} (h : Wf L) {r p : Nat} (hp : p < L.length) (hs : sgAt L r p ≠ 0) : p + 1 < L.length := by
  refine h.on hp fun e => hs ?_
  have h0 : opT (tk L p) = 0 := by
    unfold opT
    rw [if_pos (by rw [e]; decide)]
  unfold sgAt
  rw [h0]
  split <;> rfl
theorem Wf.val {L : List Tt} (h : Wf L) {p : Nat} (hp : p < L.length) (hv : isVal (tk L p) = true) : p + 1 < L.length := by
  refine h.on hp fun e => ?_
  have hr := (h.2 p hp).1
  unfold RT at hr
  unfold isVal at hv
  simp only [Bool.or_eq_true, beq_iff_eq] at hv
  rcases hv with (((hv | hv) | hv) | hv) | hv
  · omega
  · omega
  all_goals
    rw [hv] at hr
    have : kindOf (tk L p).2 = 2 := by rw [hv]; decide
    rw [hv, hr, e] at this
    cases this
/-- What was read is no greater than what was gone behind. -/
def In {α : Type} (L : List Tt) (m : α → Nat) (lo c : Nat) : Res α → Prop
  | .ok x q => lo + m x ≤ q + c ∧ q < L.length
  | .err e q => e = 99 ∨ q < L.length
theorem In.bind {α β : Type} {L : List Tt} {m : α → Nat} {m' : β → Nat} {lo c lo' c' : Nat} {R : Res α} {g : α → Nat → Res β} (h : In L m lo c R) (k : ∀ x q, lo + m x ≤ q + c → q < L.length → In L m' lo' c' (g x q)) : In L m' lo' c' (R.bind g) := by
  cases R with
  | ok x q => exact k x q h.1 h.2
  | err e q => exact h
theorem size_mk (k o vk vn : Int) (vs nm : List UInt8) (kids : List Ex) : size (.mk k o vk vn vs nm kids) = sizeL kids + 1 := by rw [size]
theorem sizeL_one (x : Ex) : sizeL [x] = size x := by rw [sizeL, sizeL]; omega
theorem sizeL_app : ∀ (a b : List Ex), sizeL (a ++ b) = sizeL a + sizeL b
  | [], b => by rw [List.nil_append, show sizeL [] = 0 by rw [sizeL]]; omega
  | x :: a, b => by rw [List.cons_append, sizeL, sizeL, sizeL_app a b]; omega
theorem sizeL_cons (x : Ex) (l : List Ex) : sizeL (x :: l) = size x + sizeL l := by rw [sizeL]
structure Inner (L : List Tt) (n : Nat) : Prop where
  rank : ∀ r p, p < L.length → In L size p 0 (rankP L n r p)
  loop : ∀ r x p, p < L.length → In L size p (size x) (loopP L n r x p)
  is : ∀ p, p < L.length → In L size p 0 (isP L n p)
  list : ∀ most p, p < L.length → In L sizeL (p + 1) 0 (listP L n most p)
  more : ∀ most d p, p < L.length → In L sizeL p (sizeL d) (moreP L n most d p)
  one : ∀ p, p < L.length → In L size p 0 (oneP L n p)
theorem inner {L : List Tt} (hL : Wf L) : ∀ n, Inner L n
  | 0 => by
    refine ⟨fun r p _ => ?_, fun r x p _ => ?_, fun p _ => ?_, fun m p _ => ?_, fun m d p _ => ?_, fun p _ => ?_⟩
    · rw [rankP]; exact .inl rfl
    · rw [loopP]; exact .inl rfl
    · rw [isP]; exact .inl rfl
    · rw [listP]; exact .inl rfl
    · rw [moreP]; exact .inl rfl
    · rw [oneP]; exact .inl rfl
  | n + 1 => by
    have ih := inner hL n
    refine ⟨fun r p hp => ?_, fun r x p hp => ?_, fun p hp => ?_, fun most p hp => ?_, fun most d p hp => ?_, fun p hp => ?_⟩
    · rw [rankP]
      split
      · split
        · rename_i ht
          refine (ih.rank _ _ (hL.isT hp ht)).bind fun a s h1 h2 => ⟨?_, h2⟩
          show p + size (un 2 a) ≤ s + 0
          unfold un
          rw [size_mk, sizeL_one]; omega
        · exact ih.rank _ _ hp
      split
      · exact ih.is _ hp
      split
      · split
        · rename_i ht
          refine (ih.rank _ _ (hL.isT hp ht)).bind fun a s h1 h2 => ⟨?_, h2⟩
          show p + size (un 1 a) ≤ s + 0
          unfold un
          rw [size_mk, sizeL_one]; omega
        · exact ih.rank _ _ hp
      split
      · exact ih.one _ hp
      · refine (ih.rank _ _ hp).bind fun a s h1 h2 => ?_
        have := ih.loop r a s h2
        revert this
        generalize loopP L n r a s = R
        intro h3
        cases R with
        | ok y q => exact ⟨by have := h3.1; omega, h3.2⟩
        | err e q => exact h3
    · rw [loopP]
      split
      · exact ⟨Nat.le_refl _, hp⟩
      · rename_i h0
        refine (ih.rank _ _ (hL.sg hp h0)).bind fun a s h1 h2 => ?_
        have := ih.loop r (bin (sgAt L r p) x a) s h2
        revert this
        generalize loopP L n r (bin (sgAt L r p) x a) s = R
        intro h3
        cases R with
        | ok y q =>
          refine ⟨?_, h3.2⟩
          have h4 := h3.1
          unfold bin at h4
          rw [size_mk, sizeL_cons, sizeL_one] at h4
          omega
        | err e q => exact h3
    · rw [isP]
      refine (ih.rank _ _ hp).bind fun a s h1 h2 => ?_
      split
      · rename_i h0
        refine (ih.rank _ _ (hL.sg h2 h0)).bind fun b u h3 h4 => ⟨?_, h4⟩
        show p + size (bin (sgAt L 4 s) a b) ≤ u + 0
        unfold bin
        rw [size_mk, sizeL_cons, sizeL_one]; omega
      split
      · rename_i ht
        have h3 := hL.isT h2 ht
        split
        · rename_i ht2
          have h4 := hL.isT h3 ht2
          split
          · rename_i ht3
            refine ⟨?_, hL.isT h4 ht3⟩
            show p + size (un 4 a) ≤ s + 3 + 0
            unfold un
            rw [size_mk, sizeL_one]; omega
          · exact .inr h4
        · split
          · rename_i ht3
            refine ⟨?_, hL.isT h3 ht3⟩
            show p + size (un 3 a) ≤ s + 2 + 0
            unfold un
            rw [size_mk, sizeL_one]; omega
          · exact .inr h3
      split
      · rename_i ht
        refine (ih.list 8 _ (hL.isT h2 ht)).bind fun l u h3 h4 => ⟨?_, h4⟩
        show p + size (inn (a :: l)) ≤ u + 0
        unfold inn
        rw [size_mk, sizeL_cons]; omega
      · exact ⟨h1, h2⟩
    · rw [listP]
      split
      · rename_i ht
        refine (ih.rank _ _ (hL.isT hp ht)).bind fun a s h1 h2 => ?_
        have := ih.more most [a] s h2
        revert this
        generalize moreP L n most [a] s = R
        intro h3
        cases R with
        | ok y q =>
          refine ⟨?_, h3.2⟩
          have h4 := h3.1
          rw [sizeL_one] at h4
          omega
        | err e q => exact h3
      · exact .inr hp
    · rw [moreP]
      split
      · rename_i hc
        refine (ih.rank _ _ (hL.isT hp hc.2)).bind fun a s h1 h2 => ?_
        have := ih.more most (d ++ [a]) s h2
        revert this
        generalize moreP L n most (d ++ [a]) s = R
        intro h3
        cases R with
        | ok y q =>
          refine ⟨?_, h3.2⟩
          have h4 := h3.1
          rw [sizeL_app, sizeL_one] at h4
          omega
        | err e q => exact h3
      · split
        · rename_i ht
          exact ⟨by omega, hL.isT hp ht⟩
        · exact .inr hp
    · rw [oneP]
      split
      · rename_i hv
        split
        · refine ⟨?_, hL.val hp hv⟩
          show p + size (lit _ _ _) ≤ p + 1 + 0
          unfold lit
          rw [size_mk, show sizeL [] = 0 by rw [sizeL]]; omega
        · exact .inr hp
      split
      · rename_i h1
        refine ⟨?_, hL.on hp (by omega)⟩
        show p + size (col _) ≤ p + 1 + 0
        unfold col
        rw [size_mk, show sizeL [] = 0 by rw [sizeL]]; omega
      split
      · rename_i h1
        refine ⟨?_, hL.on hp (by omega)⟩
        show p + size (par _) ≤ p + 1 + 0
        unfold par
        rw [size_mk, show sizeL [] = 0 by rw [sizeL]]; omega
      split
      · rename_i ht
        refine (ih.list 4 _ (hL.isT hp ht)).bind fun l u h3 h4 => ⟨?_, h4⟩
        show p + size (call _ l) ≤ u + 0
        unfold call
        rw [size_mk]; omega
      split
      · rename_i ht
        refine (ih.list 1 _ (hL.isT hp ht)).bind fun l u h3 h4 => ⟨?_, h4⟩
        show p + size (call _ l) ≤ u + 0
        unfold call
        rw [size_mk]; omega
      split
      · rename_i ht
        refine (ih.list 1 _ (hL.isT hp ht)).bind fun l u h3 h4 => ⟨?_, h4⟩
        show p + size (call _ l) ≤ u + 0
        unfold call
        rw [size_mk]; omega
      split
      · rename_i ht
        refine (ih.rank 1 _ (hL.isT hp ht)).bind fun x u h3 h4 => ?_
        split
        · rename_i ht2
          exact ⟨by omega, hL.isT h4 ht2⟩
        · exact .inr h4
      · exact .inr hp
end Go.Proofs.YtlkmhdbmcfblkaaGreatDoor.Ep
/- Which sign between two comes next, of a rank: the program's way. -/
namespace Go.Proofs.YtlkmhdbmcfblkaaGreatDoor.Ep
open Go.RowKit Go.Proofs.YtlkmhdbmcfblkaaGreatDoor.Mem Go.Proofs.YtlkmhdbmcfblkaaGreatDoor.Right Go.Proofs.YtlkmhdbmcfblkaaGreatDoor.Lx
set_option linter.unusedVariables false

/-- What the parser reads, all below it. -/
structure Env (w : World) (B : Nat) (A : Option Addr) (L : List To) : Prop where
  toks : ToksIn w (fun b => b < B) A L
  esg : Esg w B
  signs : Signs w
  max : ∃ m : Int, w.cell? ⟨2, 0, none⟩ = some (.int .i64 m)
  top : 0 < B ∧ 1 < B ∧ 2 < B
theorem Env.below {w w' : World} {B : Nat} {A : Option Addr} {L : List To} (h : Env w B A L) (hb : Below B w w') : Env w' B A L := by
  refine ⟨fun j x hx => ?_, h.esg.below hb (Nat.le_refl _) h.top.1, h.signs.below hb h.top.2.1, ?_, h.top⟩
  · obtain ⟨b, o, h1, h2, h3, h4, h5⟩ := h.toks j x hx
    exact ⟨b, o, h1, h2, (hb.cell (p := ⟨b, o + j * 3, none⟩) h2).trans h3, (hb.cell (p := ⟨b, o + j * 3 + 1, none⟩) h2).trans h4, (hb.cell (p := ⟨b, o + j * 3 + 2, none⟩) h2).trans h5⟩
  · obtain ⟨m, hm⟩ := h.max
    exact ⟨m, (hb.cell h.top.2.2).trans hm⟩
/-- The first of the signs with this rank and text. -/
def esAt (r : Int) (t : List UInt8) : Option Int := (esl.find? fun x => decide (x.2.1 = r ∧ x.1 = t)).map (·.2.2)
theorem esAt_hit {r : Int} {t : List UInt8} {j : Nat} {x : List UInt8 × Int × Int} (hx : esl[j]? = some x) (h0 : ∀ k y, k < j → esl[k]? = some y → ¬ (y.2.1 = r ∧ y.1 = t)) (h : x.2.1 = r ∧ x.1 = t) : esAt r t = some x.2.2 := by
  unfold esAt
  have : esl.find? (fun x => decide (x.2.1 = r ∧ x.1 = t)) = some x := by
    rw [List.find?_eq_some_iff_getElem]
    obtain ⟨hj, rfl⟩ := List.getElem?_eq_some_iff.1 hx
    refine ⟨decide_eq_true h, j, hj, rfl, fun k hk => ?_⟩
    have := h0 k _ hk (List.getElem?_eq_getElem (by omega))
    simp only [Bool.not_eq_true', decide_eq_false_iff_not]
    exact this
  rw [this]; rfl
theorem esAt_none {r : Int} {t : List UInt8} (h0 : ∀ k y, k < 14 → esl[k]? = some y → ¬ (y.2.1 = r ∧ y.1 = t)) : esAt r t = none := by
  unfold esAt
  have : esl.find? (fun x => decide (x.2.1 = r ∧ x.1 = t)) = none := by
    rw [List.find?_eq_none]
    intro x hx
    obtain ⟨k, hk, rfl⟩ := List.getElem_of_mem hx
    have := h0 k _ hk (List.getElem?_eq_getElem hk)
    simp only [decide_eq_true_eq]
    exact this
  rw [this]; rfl
theorem esl_at {j : Nat} (h : j < 14) : ∃ x, esl[j]? = some x := ⟨esl[j]'h, List.getElem?_eq_getElem h⟩
set_option maxRecDepth 100000 in
set_option maxHeartbeats 2000000 in
theorem sign_any {w : World} {B p n c : Nat} {v : Value} {d : Bool} {A : Option Addr} {L : List To} {x : To} (h : Pz w B (.slice A n c) p v d) (hE : Env w B A L) (hx : L[p]? = some x) (hn : n = L.length) (hL : L.length ≤ 1000) (r : Int) :
    Calls Tryz.prog 57 #[pV B, .int .i64 r] w fun e w' => e = .returned (.tuple #[.int .i64 ((esAt r x.text).getD 0), .bool (esAt r x.text).isSome]) ∧ Pz w' B (.slice A n c) (if (esAt r x.text).isSome then p + 1 else p) v d ∧ Oth B w w' := by
  obtain ⟨op, hop⟩ : ∃ op, (esAt r x.text).getD 0 = op := ⟨_, rfl⟩
  obtain ⟨f, hf⟩ : ∃ f, (esAt r x.text).isSome = f := ⟨_, rfl⟩
  obtain ⟨q, hq⟩ : ∃ q, (if f = true then p + 1 else p) = q := ⟨_, rfl⟩
  rw [hop, hf, hq]
  have HE := Lib.hid hE
  have HX := Lib.hid (And.intro hx hn)
  have HL := Lib.hid hL
  have HZ0 := Lib.hid h
  have HO0 := Lib.hid (Oth.refl B w)
  have HR := Lib.hid (And.intro hop (And.intro hf hq))
  obtain ⟨bs, os, cs, hbs, q0, hes⟩ := hE.esg
  have HS := Lib.hid (show ∀ W, Below B w W → ∀ (j : Nat) (y : List UInt8 × Int × Int), esl[j]? = some y → W.cell? ⟨bs, os + j * 3, none⟩ = some (.string ⟨y.1.toArray⟩) ∧ W.cell? ⟨bs, os + j * 3 + 1, none⟩ = some (.int .i64 y.2.1) ∧ W.cell? ⟨bs, os + j * 3 + 2, none⟩ = some (.int .i64 y.2.2) from fun W hW j y hy => by
    obtain ⟨h1, h2, h3⟩ := hes j y hy
    exact ⟨(hW.cell (p := ⟨bs, os + j * 3, none⟩) hbs).trans h1, (hW.cell (p := ⟨bs, os + j * 3 + 1, none⟩) hbs).trans h2, (hW.cell (p := ⟨bs, os + j * 3 + 2, none⟩) hbs).trans h3⟩)
  have HB := Lib.hid h.lt
  clear h hE hx hn hL hop hf hq hes
  go_enter Tryz.func57, Tryz.ntmps57
  go_wp2
  go_loopw [10] (fun i wr => ∃ j : Nat, i = .int .i64 (j : Int) ∧ j ≤ 14 ∧ Hid (∀ k y, k < j → esl[k]? = some y → ¬ (y.2.1 = r ∧ y.1 = x.text)) ∧ Hid (Pz wr B (.slice A n c) p v d) ∧ Hid (Oth B w wr)) (fun i _ => 14 - (intOf i).toNat)
  case atStart => exact ⟨0, rfl, Nat.zero_le _, Lib.hid (fun k y hk => absurd hk (Nat.not_lt_zero _)), HZ0, HO0⟩
  case round =>
    obtain ⟨j, rfl, hj, HN, HZ, HO⟩ := hrel
    by_cases hj14 : j = 14
    · have t0 : ¬ (j : Int) < 14 := by omega
      have t1 : decide ((j : Int) < 14) = false := decide_eq_false t0
      have HF := Lib.hid (esAt_none (hj14 ▸ HN.out))
      clear hj14
      go_wp2_with fail
      go_ret2
      obtain ⟨e1, e2, e3⟩ := HR.out
      rw [HF.out] at e1 e2
      subst e1 e2 e3
      exact ⟨rfl, HZ.out, HO.out⟩
    · have t0 : (j : Int) < 14 := by omega
      obtain ⟨⟨yt, yr, yo⟩, hy⟩ := esl_at (j := j) (by omega)
      have hjl : j < 14 := by omega
      obtain ⟨c0, c1, c2⟩ := HS.out _ HO.out.1 j _ hy
      have HY := Lib.hid hy
      have hwz := HO.out.size
      have hbw : Below wr.heap.size wr (wr.alloc (.cells #[.string ⟨yt.toArray⟩, .int .i64 yr, .int .i64 yo] 140)) := al (Below.refl _ _) _
      have HZA := Lib.hid (HZ.out.below hbw)
      have HEA := Lib.hid (HE.out.below (HO.out.1.trans (hbw.mono (by have := HB.out; omega))))
      have HOA := Lib.hid (HO.out.trans (Oth.of hbw (by have := HB.out; omega)))
      have HCA := Lib.hid (Cel.new wr 140 #[.string ⟨yt.toArray⟩, .int .i64 yr, .int .i64 yo] rfl)
      clear hbw hy hj14
      by_cases hr : yr = r
      · subst hr
        by_cases ht : yt = x.text
        · have HF := Lib.hid (esAt_hit HY.out HN.out ⟨rfl, ht⟩)
          have HSK := Lib.hid (skip_yes HZA.out HEA.out.toks HX.out.1 HX.out.2 HL.out)
          have et : (⟨yt.toArray⟩ : ByteArray) = Ep.txt x.text := by rw [ht]; rfl
          have HTT := Lib.hid et
          rw [← et] at HSK
          clear ht et
          go_wp2_with (go_at_call 104; (refine HSK.out.mono ?_); rintro e' w2 ⟨rfl, h1, h2⟩; have H1 := Lib.hid (And.intro h1 (HOA.out.trans h2)); have hc2 := h2.cel (by have := HB.out; omega) HCA.out; have k2 := hc2.at_ 2; clear h1 h2 hc2)
          go_ret2
          obtain ⟨e1, e2, e3⟩ := HR.out
          rw [HF.out] at e1 e2
          subst e1 e2 e3
          exact ⟨rfl, H1.out.1, H1.out.2⟩
        · have HSK := Lib.hid (skip_no HZA.out HEA.out.toks HX.out.1 HX.out.2 ⟨yt.toArray⟩ (by
            rcases text_or x.text ⟨yt.toArray⟩ with e | ⟨_, e⟩
            · exact absurd (congrArg (fun s : ByteArray => s.data.toList) e) ht
            · exact e))
          have HT := Lib.hid ht
          clear ht
          go_wp2_with (go_at_call 104; (refine HSK.out.mono ?_); rintro e' w2 ⟨rfl, h1, h2⟩; have H1 := Lib.hid (And.intro h1 (HOA.out.trans h2)); clear h1 h2)
          go_roundw
          case rel =>
            refine ⟨j + 1, by simp, by omega, Lib.hid fun k y hk hy => ?_, Lib.hid H1.out.1, Lib.hid H1.out.2⟩
            rcases Nat.lt_or_ge k j with hkj | hkj
            · exact HN.out k y hkj hy
            · obtain rfl : k = j := by omega
              rw [HY.out] at hy
              injection hy with hy
              subst hy
              exact fun h => HT.out h.2
          case measure => simp [intOf]; omega
      · have HT := Lib.hid hr
        have t2 : (yr == r) = false := beq_no hr
        clear hr
        go_wp2_with fail
        go_roundw
        case rel =>
          refine ⟨j + 1, by simp, by omega, Lib.hid fun k y hk hy => ?_, HZA, HOA⟩
          rcases Nat.lt_or_ge k j with hkj | hkj
          · exact HN.out k y hkj hy
          · obtain rfl : k = j := by omega
            rw [HY.out] at hy
            injection hy with hy
            subst hy
            exact fun h => HT.out h.1
        case measure => simp [intOf]; omega
end Go.Proofs.YtlkmhdbmcfblkaaGreatDoor.Ep
