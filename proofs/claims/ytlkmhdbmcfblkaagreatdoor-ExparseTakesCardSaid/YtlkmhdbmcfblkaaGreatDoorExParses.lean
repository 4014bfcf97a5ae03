import Derived.Test.YtlkmhdbmcfblkaaGreatDoorExTakes
import Derived.Test.YtlkmhdbmcfblkaaGreatDoorExOverNs
import Derived.Test.YtlkmhdbmcfblkaaGreatDoorLexToks
import Derived.Test.YtlkmhdbmcfblkaaGreatDoorExPss
/- Parse: the tokens of a text, and the expression that they are. -/
namespace Go.Proofs.YtlkmhdbmcfblkaaGreatDoor.Ep
open Go.RowKit Go.Proofs.YtlkmhdbmcfblkaaGreatDoor.Mem Go.Proofs.YtlkmhdbmcfblkaaGreatDoor.Right Go.Proofs.YtlkmhdbmcfblkaaGreatDoor.Lx
set_option linter.unusedVariables false

/-- A token that the lexer told. -/
def toOf (t : Tk) : To := ⟨(t.kind : Int), t.text, (t.at_ : Int)⟩
def lOf (ts : List Tk) : List To := ts.map toOf
theorem toks_in {w : World} {B : Nat} {A : Option Addr} {ts : List Tk} (h : Toks w B A ts) : ToksIn w (fun b => b < B) A (lOf ts) := fun j x hx => by
  unfold lOf at hx
  rw [List.getElem?_map] at hx
  cases ht : ts[j]? with
  | none => rw [ht] at hx; cases hx
  | some t =>
    rw [ht] at hx
    obtain rfl : toOf t = x := Option.some.inj hx
    exact h j t ht
theorem lex_ok {s : List UInt8} {ts : List Tk} {p : Nat} (h : toksV s = (ts, p, 0)) : toksOk (lOf ts) = true ∧ (∀ x ∈ lOf ts, x.text.length ≤ 400) ∧ s.length ≤ 400 := by
  unfold toksV at h
  split at h
  · cases h
  · rename_i hs
    obtain ⟨h0, he⟩ := cut_each h
    refine ⟨toksOk_iff.2 ⟨?_, fun j x hx => ?_⟩, fun x hx => ?_, by omega⟩
    · unfold lOf
      rw [List.length_map]
      exact List.length_pos_iff.2 h0
    · unfold lOf at hx ⊢
      rw [List.getElem?_map] at hx
      cases ht : ts[j]? with
      | none => rw [ht] at hx; cases hx
      | some t =>
        rw [ht] at hx
        obtain rfl : toOf t = x := Option.some.inj hx
        obtain ⟨h1, h2, h3, h4, h5, h6⟩ := he j t ht
        unfold okTok rightTo toOf
        rw [List.length_map]
        simp only [Bool.and_eq_true, decide_eq_true_eq, beq_iff_eq]
        refine ⟨⟨by omega, by omega, by omega⟩, ?_⟩
        by_cases hk : t.kind = 7
        · rw [decide_eq_true (h5.1 hk), decide_eq_true (show (t.kind : Int) = 7 by omega)]
        · rw [decide_eq_false (fun e => hk (h5.2 e)), decide_eq_false (show ¬ (t.kind : Int) = 7 by omega)]
    · unfold lOf at hx
      rw [List.mem_map] at hx
      obtain ⟨t, ht, rfl⟩ := hx
      obtain ⟨j, hj, rfl⟩ := List.getElem_of_mem ht
      obtain ⟨h1, h2, h3, -⟩ := he j _ (List.getElem?_eq_getElem hj)
      show (ts[j]).text.length ≤ 400
      omega
/-- What the calls read of the listed variables. -/
structure Wd (w : World) : Prop where
  esg : Esg w w.heap.size
  signs : Signs w
  max : ∃ m : Int, w.cell? ⟨2, 0, none⟩ = some (.int .i64 m)
theorem Wd.below {w W : World} (h : Wd w) (hb : Below w.heap.size w W) : Wd W := by
  have hg : 0 < w.heap.size := by
    obtain ⟨b, o, c, h1, h2, h3⟩ := h.esg
    exact cell_lt h2
  obtain ⟨m, hm⟩ := h.max
  refine ⟨?_, h.signs.below hb h.signs.lt, m, (hb.cell (p := ⟨2, 0, none⟩) (cell_lt hm)).trans hm⟩
  obtain ⟨b, o, c, h1, h2, h3⟩ := h.esg.below hb (Nat.le_refl _) hg
  exact ⟨b, o, c, Nat.lt_of_lt_of_le h1 hb.size, h2, h3⟩
theorem Wd.base {w : World} (h : Wd w) {A : Option Addr} {L : List To} (ht : ToksIn w (fun b => b < w.heap.size) A L) : Base w A L := ⟨ht, h.esg, h.signs, h.max⟩
/-- Take of right tokens, all together. -/
theorem take_any {w : World} {A : Option Addr} {n c N : Nat} {L : List To} (hb : Base w A L) (hn : n = L.length) (hm : n ≤ 1000) (hx : ∀ x ∈ L, x.text.length ≤ 1000000) {R : Res Ex} (hR : rankP (Ts L) N 1 0 = R) (h99 : ∀ q, R ≠ .err 99 q) :
    Calls Tryz.prog 7 #[.slice A n c] w (TakeL w (takeR L R)) := by
  unfold takeR
  by_cases hok : toksOk L = false
  · rw [if_pos hok]
    exact take_not hb hn (by omega) hx hok
  · rw [if_neg hok]
    have hok : toksOk L = true := by simpa using hok
    cases R with
    | err e q => exact take_err hb hn hm hx hok hR (fun h => h99 q (by rw [h]))
    | ok x q =>
      by_cases hh : high x = true
      · show Calls _ _ _ _ (TakeL w (if high x = true then (exZ, 0, 17) else (x, q, 0)))
        rw [if_pos hh]
        exact take_deep hb hn hm hx hok hR hh
      · show Calls _ _ _ _ (TakeL w (if high x = true then (exZ, 0, 17) else (x, q, 0)))
        rw [if_neg hh]
        exact take_ok hb hn hm hx hok hR (by simpa using hh)
/-- What Parse answers, by the tokens and what the grammar reads. -/
def atL (L : List To) (q : Nat) : Int := match L[q]? with | some x => x.at_ | none => 0
def kiL (L : List To) (q : Nat) : Int := match L[q]? with | some x => x.kind | none => 0
def parseR (L : List To) (R : Res Ex) : Ex × Int × Int :=
  match takeR L R with
  | (x, q, c) => if c ≠ 0 then (exZ, atL L q, c) else if kiL L q ≠ 7 then (exZ, atL L q, 16) else (x, 0, 0)
def ParseL (w : World) (V : Ex × Int × Int) (e : Ending) (w' : World) : Prop := ∃ cs, e = .returned (.tuple #[.agg (List.toArray cs), .int .i64 V.2.1, .int .i64 V.2.2]) ∧ ExAt w' w'.heap.size V.1 cs ∧ Below w.heap.size w w'
theorem ParseL.zero {w w' : World} {q c : Int} (hb : Below w.heap.size w w') : ParseL w (exZ, q, c) (.returned (.tuple #[.agg zC.toArray, .int .i64 q, .int .i64 c])) w' := ⟨zC, rfl, zC_in _ _, hb⟩
theorem at7 {w : World} {S : Nat → Prop} {x : Ex} {cs : List Value} (h : ExIn w S x cs) : ∃ k o vk vn vs nm A n c, cs = [.int .i64 k, .int .i64 o, .int .i64 vk, .int .i64 vn, .string (Ep.txt vs), .string (Ep.txt nm), .slice A n c] ∧ ExIn w S x [.int .i64 k, .int .i64 o, .int .i64 vk, .int .i64 vn, .string (Ep.txt vs), .string (Ep.txt nm), .slice A n c] := by
  obtain ⟨k, o, vk, vn, vs, nm, ks⟩ := x
  obtain ⟨A, n, c, rfl, -⟩ := ex_open h
  exact ⟨k, o, vk, vn, vs, nm, A, n, c, rfl, h⟩
theorem ToksIn.below {w w' : World} {A : Option Addr} {L : List To} (h : ToksIn w (fun b => b < w.heap.size) A L) (hb : Below w.heap.size w w') : ToksIn w' (fun b => b < w'.heap.size) A L := fun j x hx => by
  obtain ⟨b, o, h1, h2, h3, h4, h5⟩ := h j x hx
  exact ⟨b, o, h1, Nat.lt_of_lt_of_le h2 hb.size, (hb.cell (p := ⟨b, o + j * 3, none⟩) h2).trans h3, (hb.cell (p := ⟨b, o + j * 3 + 1, none⟩) h2).trans h4, (hb.cell (p := ⟨b, o + j * 3 + 2, none⟩) h2).trans h5⟩
theorem tok_far {w : World} {g b i : Nat} {k a : Int} {t : ByteArray} (h : Cel w g tE #[.int .i64 0, .int .i64 0, .int .i64 0, .int .i64 0, .string ⟨#[]⟩, .string ⟨#[]⟩, .slice none 0 0])
    (d0 : w.cell? ⟨b, i, none⟩ = some (.int .i64 k)) (d1 : w.cell? ⟨b, i + 1, none⟩ = some (.string t)) (d2 : w.cell? ⟨b, i + 2, none⟩ = some (.int .i64 a)) : b ≠ g := by
  rintro rfl
  rw [h.at_] at d0 d1 d2
  match i, d0, d1, d2 with
  | 0, _, d1, _ => injection d1 with d1; cases d1
  | 1, _, d1, _ => injection d1 with d1; cases d1
  | 2, _, d1, _ => injection d1 with d1; cases d1
  | 3, _, _, d2 => injection d2 with d2; cases d2
  | 4, d0, _, _ => injection d0 with d0; cases d0
  | 5, d0, _, _ => injection d0 with d0; cases d0
  | 6, d0, _, _ => injection d0 with d0; cases d0
  | n + 7, d0, _, _ => simp at d0
/-- How Parse ends. -/
theorem parse_end {w : World} {V : Ex × Int × Int} (tmps : Array Value) (b0 : Nat) (g0 : tmps[2]? = some (.pointer (some ⟨b0, 0, none⟩))) (g1 : tmps[3]? = some (.int .i64 V.2.1)) (g2 : tmps[4]? = some (.int .i64 V.2.2)) {W : World} {t0 : TypeId} {z0 z1 z2 z3 z4 z5 z6 : Value}
    (h0 : Cel W b0 t0 #[z0, z1, z2, z3, z4, z5, z6]) (hx : ExAt W W.heap.size V.1 [z0, z1, z2, z3, z4, z5, z6]) (hb : Below w.heap.size w W) : bodyPost Tryz.prog Tryz.f19 (ParseL w V) Exit.ret { tmps := tmps, defers := [] } W := by
  refine bodyPost_ret (v := .tuple #[.agg #[z0, z1, z2, z3, z4, z5, z6], .int .i64 V.2.1, .int .i64 V.2.2]) ?_ rfl ⟨[z0, z1, z2, z3, z4, z5, z6], rfl, hx, hb⟩
  have x0 : W.cell? ⟨b0, 0, none⟩ = some z0 := h0.at_ 0
  have x1 : W.cell? ⟨b0, 1, none⟩ = some z1 := h0.at_ 1
  have x2 : W.cell? ⟨b0, 2, none⟩ = some z2 := h0.at_ 2
  have x3 : W.cell? ⟨b0, 3, none⟩ = some z3 := h0.at_ 3
  have x4 : W.cell? ⟨b0, 4, none⟩ = some z4 := h0.at_ 4
  have x5 : W.cell? ⟨b0, 5, none⟩ = some z5 := h0.at_ 5
  have x6 : W.cell? ⟨b0, 6, none⟩ = some z6 := h0.at_ 6
  simp [results, Tryz.f19, g0, g1, g2]
  go_simp
set_option maxRecDepth 100000 in
set_option maxHeartbeats 2000000 in
theorem parse_lex {w : World} (s : ByteArray) (hs : s.size ≤ 1000000) (hw : Wd w) {ts : List Tk} {p e : Nat} (hR : toksV s.data.toList = (ts, p, e)) (he : e ≠ 0) :
    Calls Tryz.prog 19 #[.string s] w (ParseL w (exZ, p, e)) := by
  obtain ⟨W0, hW0⟩ : ∃ W0, w.alloc (.cells #[.int .i64 0, .int .i64 0, .int .i64 0, .int .i64 0, .string ⟨#[]⟩, .string ⟨#[]⟩, .slice none 0 0] tE) = W0 := ⟨_, rfl⟩
  have hbl : Below w.heap.size w W0 := hW0 ▸ al (Below.refl _ _) _
  have c0 : Cel W0 w.heap.size tE #[.int .i64 0, .int .i64 0, .int .i64 0, .int .i64 0, .string ⟨#[]⟩, .string ⟨#[]⟩, .slice none 0 0] := hW0 ▸ Cel.new w tE _ rfl
  have HT := Lib.hid (tokens_any s hs W0 (hw.below hbl).signs _ hR)
  have HC := Lib.hid c0
  have HB := Lib.hid hbl
  have t0 : ((e : Int) != 0) = true := bne_yes (by omega)
  clear hw hR c0 hbl
  go_enter Tryz.func19, Tryz.ntmps19
  go_wp2_with (go_at_call 35; (refine HT.out.mono ?_); rintro e' w1 ⟨A, n, c, rfl, hn, ht, hb1⟩; have HB1 := Lib.hid (Mem.on HB.out hb1); have HC1 := Lib.hid (HC.out.below hb1); have x0 := HC1.out.at_ 0; have x1 := HC1.out.at_ 1; have x2 := HC1.out.at_ 2; have x3 := HC1.out.at_ 3; have x4 := HC1.out.at_ 4; have x5 := HC1.out.at_ 5; have x6 := HC1.out.at_ 6; have f0 := fun i => HC1.out.open_ i; clear hb1 hn ht)
  have k0 := (((((((HC1.out.set 0 (Value.int .i64 0)).set 1 (Value.int .i64 0)).set 2 (Value.int .i64 0)).set 3 (Value.int .i64 0)).set 4 (Value.string ⟨#[]⟩)).set 5 (Value.string ⟨#[]⟩)).set 6 (Value.slice none 0 0))
  simp only [List.setIfInBounds_toArray, List.set_cons_zero, List.set_cons_succ] at k0
  have h0 := Nat.le_refl w.heap.size
  exact parse_end (V := (exZ, (p : Int), (e : Int))) _ w.heap.size rfl rfl rfl k0 (zC_in _ _) (Below.setCell (p := ⟨w.heap.size, 6, none⟩) (Below.setCell (p := ⟨w.heap.size, 5, none⟩) (Below.setCell (p := ⟨w.heap.size, 4, none⟩) (Below.setCell (p := ⟨w.heap.size, 3, none⟩) (Below.setCell (p := ⟨w.heap.size, 2, none⟩) (Below.setCell (p := ⟨w.heap.size, 1, none⟩) (Below.setCell (p := ⟨w.heap.size, 0, none⟩) HB1.out h0 (Value.int .i64 0)) h0 (Value.int .i64 0)) h0 (Value.int .i64 0)) h0 (Value.int .i64 0)) h0 (Value.string ⟨#[]⟩)) h0 (Value.string ⟨#[]⟩)) h0 (Value.slice none 0 0))
set_option maxRecDepth 100000 in
set_option maxHeartbeats 2000000 in
theorem parse_err {w : World} (s : ByteArray) (hs : s.size ≤ 1000000) (hw : Wd w) {ts : List Tk} {p : Nat} (hR : toksV s.data.toList = (ts, p, 0)) {x : Ex} {q : Nat} {f : Int}
    (hT : ∀ W A n c, n = (lOf ts).length → Below w.heap.size w W → ToksIn W (fun b => b < W.heap.size) A (lOf ts) → Calls Tryz.prog 7 #[.slice A n c] W (TakeL W (x, q, f))) {y : To} (hy : (lOf ts)[q]? = some y) (hf : f ≠ 0) :
    Calls Tryz.prog 19 #[.string s] w (ParseL w (exZ, y.at_, f)) := by
  obtain ⟨W0, hW0⟩ : ∃ W0, w.alloc (.cells #[.int .i64 0, .int .i64 0, .int .i64 0, .int .i64 0, .string ⟨#[]⟩, .string ⟨#[]⟩, .slice none 0 0] tE) = W0 := ⟨_, rfl⟩
  have hbl : Below w.heap.size w W0 := hW0 ▸ al (Below.refl _ _) _
  have c0 : Cel W0 w.heap.size tE #[.int .i64 0, .int .i64 0, .int .i64 0, .int .i64 0, .string ⟨#[]⟩, .string ⟨#[]⟩, .slice none 0 0] := hW0 ▸ Cel.new w tE _ rfl
  have HT := Lib.hid (tokens_any s hs W0 (hw.below hbl).signs _ hR)
  have HC := Lib.hid c0
  have HB := Lib.hid hbl
  have HTAKE := hT
  clear hw hR c0 hbl hT
  have t0 : (f != 0) = true := bne_yes hf
  go_enter Tryz.func19, Tryz.ntmps19
  go_upto_region 6 with (first
    | (go_at_call 35; (refine HT.out.mono ?_); rintro e' w1 ⟨A1', n1', c1', rfl, hn, ht, hb1⟩; have HN1 := Lib.hid (show n1' = (lOf ts).length by unfold lOf; rw [List.length_map]; exact hn); have HT1 := Lib.hid (toks_in ht); have HB1 := Lib.hid (Mem.on HB.out hb1); have HC1 := Lib.hid (HC.out.below hb1); clear hb1 hn ht)
    | (go_at_call 7; (refine (HTAKE w1 A1' n1' c1' HN1.out HB1.out HT1.out).mono ?_); rintro e' w2 ⟨cs, rfl, hxa, hb2⟩; obtain ⟨k, o, vk, vn, vs, nm, A1, n1, c1, hcs, hxb⟩ := at7 hxa; (rw [hcs]); have HXB := Lib.hid hxb; obtain ⟨b, o', hA, -, hp, d0, d1, d2⟩ := tok_at (ToksIn.below HT1.out hb2) hy; subst hA; rw [← HN1.out] at hp; have HC2 := Lib.hid (HC1.out.below hb2); have m1 := tok_far HC2.out d0 d1 d2; have m2 : ¬ w.heap.size = b := (fun e => m1 e.symm); have HL := Lib.hid (And.intro (cell_lt d0) HC2.out.lt); replace d0 := past d0 (.cells #[.int .i64 k, .int .i64 o, .int .i64 vk, .int .i64 vn, .string (Ep.txt vs), .string (Ep.txt nm), .slice A1 n1 c1] tE); replace d1 := past d1 (.cells #[.int .i64 k, .int .i64 o, .int .i64 vk, .int .i64 vn, .string (Ep.txt vs), .string (Ep.txt nm), .slice A1 n1 c1] tE); replace d2 := past d2 (.cells #[.int .i64 k, .int .i64 o, .int .i64 vk, .int .i64 vn, .string (Ep.txt vs), .string (Ep.txt nm), .slice A1 n1 c1] tE); have HC3 := Lib.hid (HC2.out.alloc (.cells #[.int .i64 k, .int .i64 o, .int .i64 vk, .int .i64 vn, .string (Ep.txt vs), .string (Ep.txt nm), .slice A1 n1 c1] tE)); have HB3 := Lib.hid (al (Mem.on HB1.out hb2) (.cells #[.int .i64 k, .int .i64 o, .int .i64 vk, .int .i64 vn, .string (Ep.txt vs), .string (Ep.txt nm), .slice A1 n1 c1] tE)); have x0 := HC3.out.at_ 0; have x1 := HC3.out.at_ 1; have x2 := HC3.out.at_ 2; have x3 := HC3.out.at_ 3; have x4 := HC3.out.at_ 4; have x5 := HC3.out.at_ 5; have x6 := HC3.out.at_ 6; have f0 := fun i => HC3.out.open_ i; have m3 : ¬ b = w2.heap.size := (by have := HL.out.1; omega); have m4 : ¬ w.heap.size = w2.heap.size := (by have := HL.out.2; omega); clear hxa hxb hb2))
  go_region
  go_wp2
  (try simp only [Exit.inBlock, Exit.then])
  have k0 := (((((((HC3.out.set 0 (Value.int .i64 0)).set 1 (Value.int .i64 0)).set 2 (Value.int .i64 0)).set 3 (Value.int .i64 0)).set 4 (Value.string ⟨#[]⟩)).set 5 (Value.string ⟨#[]⟩)).set 6 (Value.slice none 0 0))
  simp only [List.setIfInBounds_toArray, List.set_cons_zero, List.set_cons_succ] at k0
  have h0 := Nat.le_refl w.heap.size
  skip
  exact parse_end (V := (exZ, y.at_, f)) _ w.heap.size rfl rfl rfl (Cel.drew' k0) (zC_in _ _) (Below.drew (Below.setCell (p := ⟨w.heap.size, 6, none⟩) (Below.setCell (p := ⟨w.heap.size, 5, none⟩) (Below.setCell (p := ⟨w.heap.size, 4, none⟩) (Below.setCell (p := ⟨w.heap.size, 3, none⟩) (Below.setCell (p := ⟨w.heap.size, 2, none⟩) (Below.setCell (p := ⟨w.heap.size, 1, none⟩) (Below.setCell (p := ⟨w.heap.size, 0, none⟩) HB3.out h0 (Value.int .i64 0)) h0 (Value.int .i64 0)) h0 (Value.int .i64 0)) h0 (Value.int .i64 0)) h0 (Value.string ⟨#[]⟩)) h0 (Value.string ⟨#[]⟩)) h0 (Value.slice none 0 0)))
set_option maxRecDepth 100000 in
set_option maxHeartbeats 2000000 in
theorem parse_more {w : World} (s : ByteArray) (hs : s.size ≤ 1000000) (hw : Wd w) {ts : List Tk} {p : Nat} (hR : toksV s.data.toList = (ts, p, 0)) {x : Ex} {q : Nat} {f : Int}
    (hT : ∀ W A n c, n = (lOf ts).length → Below w.heap.size w W → ToksIn W (fun b => b < W.heap.size) A (lOf ts) → Calls Tryz.prog 7 #[.slice A n c] W (TakeL W (x, q, f))) {y : To} (hy : (lOf ts)[q]? = some y) (hf : f = 0) (hk : y.kind ≠ 7) :
    Calls Tryz.prog 19 #[.string s] w (ParseL w (exZ, y.at_, 16)) := by
  obtain ⟨W0, hW0⟩ : ∃ W0, w.alloc (.cells #[.int .i64 0, .int .i64 0, .int .i64 0, .int .i64 0, .string ⟨#[]⟩, .string ⟨#[]⟩, .slice none 0 0] tE) = W0 := ⟨_, rfl⟩
  have hbl : Below w.heap.size w W0 := hW0 ▸ al (Below.refl _ _) _
  have c0 : Cel W0 w.heap.size tE #[.int .i64 0, .int .i64 0, .int .i64 0, .int .i64 0, .string ⟨#[]⟩, .string ⟨#[]⟩, .slice none 0 0] := hW0 ▸ Cel.new w tE _ rfl
  have HT := Lib.hid (tokens_any s hs W0 (hw.below hbl).signs _ hR)
  have HC := Lib.hid c0
  have HB := Lib.hid hbl
  have HTAKE := hT
  clear hw hR c0 hbl hT
  subst hf
  have t0 : (y.kind != 7) = true := bne_yes hk
  go_enter Tryz.func19, Tryz.ntmps19
  go_upto_region 8 with (first
    | (go_at_call 35; (refine HT.out.mono ?_); rintro e' w1 ⟨A1', n1', c1', rfl, hn, ht, hb1⟩; have HN1 := Lib.hid (show n1' = (lOf ts).length by unfold lOf; rw [List.length_map]; exact hn); have HT1 := Lib.hid (toks_in ht); have HB1 := Lib.hid (Mem.on HB.out hb1); have HC1 := Lib.hid (HC.out.below hb1); clear hb1 hn ht)
    | (go_at_call 7; (refine (HTAKE w1 A1' n1' c1' HN1.out HB1.out HT1.out).mono ?_); rintro e' w2 ⟨cs, rfl, hxa, hb2⟩; obtain ⟨k, o, vk, vn, vs, nm, A1, n1, c1, hcs, hxb⟩ := at7 hxa; (rw [hcs]); have HXB := Lib.hid hxb; obtain ⟨b, o', hA, -, hp, d0, d1, d2⟩ := tok_at (ToksIn.below HT1.out hb2) hy; subst hA; rw [← HN1.out] at hp; have HC2 := Lib.hid (HC1.out.below hb2); have m1 := tok_far HC2.out d0 d1 d2; have m2 : ¬ w.heap.size = b := (fun e => m1 e.symm); have HL := Lib.hid (And.intro (cell_lt d0) HC2.out.lt); replace d0 := past d0 (.cells #[.int .i64 k, .int .i64 o, .int .i64 vk, .int .i64 vn, .string (Ep.txt vs), .string (Ep.txt nm), .slice A1 n1 c1] tE); replace d1 := past d1 (.cells #[.int .i64 k, .int .i64 o, .int .i64 vk, .int .i64 vn, .string (Ep.txt vs), .string (Ep.txt nm), .slice A1 n1 c1] tE); replace d2 := past d2 (.cells #[.int .i64 k, .int .i64 o, .int .i64 vk, .int .i64 vn, .string (Ep.txt vs), .string (Ep.txt nm), .slice A1 n1 c1] tE); have HC3 := Lib.hid (HC2.out.alloc (.cells #[.int .i64 k, .int .i64 o, .int .i64 vk, .int .i64 vn, .string (Ep.txt vs), .string (Ep.txt nm), .slice A1 n1 c1] tE)); have HB3 := Lib.hid (al (Mem.on HB1.out hb2) (.cells #[.int .i64 k, .int .i64 o, .int .i64 vk, .int .i64 vn, .string (Ep.txt vs), .string (Ep.txt nm), .slice A1 n1 c1] tE)); have x0 := HC3.out.at_ 0; have x1 := HC3.out.at_ 1; have x2 := HC3.out.at_ 2; have x3 := HC3.out.at_ 3; have x4 := HC3.out.at_ 4; have x5 := HC3.out.at_ 5; have x6 := HC3.out.at_ 6; have f0 := fun i => HC3.out.open_ i; have m3 : ¬ b = w2.heap.size := (by have := HL.out.1; omega); have m4 : ¬ w.heap.size = w2.heap.size := (by have := HL.out.2; omega); clear hxa hxb hb2))
  go_region
  go_wp2
  (try simp only [Exit.inBlock, Exit.then])
  have k0 := (((((((HC3.out.set 0 (Value.int .i64 0)).set 1 (Value.int .i64 0)).set 2 (Value.int .i64 0)).set 3 (Value.int .i64 0)).set 4 (Value.string ⟨#[]⟩)).set 5 (Value.string ⟨#[]⟩)).set 6 (Value.slice none 0 0))
  simp only [List.setIfInBounds_toArray, List.set_cons_zero, List.set_cons_succ] at k0
  have h0 := Nat.le_refl w.heap.size
  skip
  exact parse_end (V := (exZ, y.at_, 16)) _ w.heap.size rfl rfl rfl (Cel.drew' k0) (zC_in _ _) (Below.drew (Below.setCell (p := ⟨w.heap.size, 6, none⟩) (Below.setCell (p := ⟨w.heap.size, 5, none⟩) (Below.setCell (p := ⟨w.heap.size, 4, none⟩) (Below.setCell (p := ⟨w.heap.size, 3, none⟩) (Below.setCell (p := ⟨w.heap.size, 2, none⟩) (Below.setCell (p := ⟨w.heap.size, 1, none⟩) (Below.setCell (p := ⟨w.heap.size, 0, none⟩) HB3.out h0 (Value.int .i64 0)) h0 (Value.int .i64 0)) h0 (Value.int .i64 0)) h0 (Value.int .i64 0)) h0 (Value.string ⟨#[]⟩)) h0 (Value.string ⟨#[]⟩)) h0 (Value.slice none 0 0)))
set_option maxRecDepth 100000 in
set_option maxHeartbeats 2000000 in
theorem parse_ok {w : World} (s : ByteArray) (hs : s.size ≤ 1000000) (hw : Wd w) {ts : List Tk} {p : Nat} (hR : toksV s.data.toList = (ts, p, 0)) {x : Ex} {q : Nat} {f : Int}
    (hT : ∀ W A n c, n = (lOf ts).length → Below w.heap.size w W → ToksIn W (fun b => b < W.heap.size) A (lOf ts) → Calls Tryz.prog 7 #[.slice A n c] W (TakeL W (x, q, f))) {y : To} (hy : (lOf ts)[q]? = some y) (hf : f = 0) (hk : y.kind = 7) :
    Calls Tryz.prog 19 #[.string s] w (ParseL w (x, 0, 0)) := by
  obtain ⟨W0, hW0⟩ : ∃ W0, w.alloc (.cells #[.int .i64 0, .int .i64 0, .int .i64 0, .int .i64 0, .string ⟨#[]⟩, .string ⟨#[]⟩, .slice none 0 0] tE) = W0 := ⟨_, rfl⟩
  have hbl : Below w.heap.size w W0 := hW0 ▸ al (Below.refl _ _) _
  have c0 : Cel W0 w.heap.size tE #[.int .i64 0, .int .i64 0, .int .i64 0, .int .i64 0, .string ⟨#[]⟩, .string ⟨#[]⟩, .slice none 0 0] := hW0 ▸ Cel.new w tE _ rfl
  have HT := Lib.hid (tokens_any s hs W0 (hw.below hbl).signs _ hR)
  have HC := Lib.hid c0
  have HB := Lib.hid hbl
  have HTAKE := hT
  clear hw hR c0 hbl hT
  subst hf
  have t0 : (y.kind != 7) = false := bne_no hk
  go_enter Tryz.func19, Tryz.ntmps19
  go_wp2_with (first
    | (go_at_call 35; (refine HT.out.mono ?_); rintro e' w1 ⟨A1', n1', c1', rfl, hn, ht, hb1⟩; have HN1 := Lib.hid (show n1' = (lOf ts).length by unfold lOf; rw [List.length_map]; exact hn); have HT1 := Lib.hid (toks_in ht); have HB1 := Lib.hid (Mem.on HB.out hb1); have HC1 := Lib.hid (HC.out.below hb1); clear hb1 hn ht)
    | (go_at_call 7; (refine (HTAKE w1 A1' n1' c1' HN1.out HB1.out HT1.out).mono ?_); rintro e' w2 ⟨cs, rfl, hxa, hb2⟩; obtain ⟨k, o, vk, vn, vs, nm, A1, n1, c1, hcs, hxb⟩ := at7 hxa; (rw [hcs]); have HXB := Lib.hid hxb; obtain ⟨b, o', hA, -, hp, d0, d1, d2⟩ := tok_at (ToksIn.below HT1.out hb2) hy; subst hA; rw [← HN1.out] at hp; have HC2 := Lib.hid (HC1.out.below hb2); have m1 := tok_far HC2.out d0 d1 d2; have m2 : ¬ w.heap.size = b := (fun e => m1 e.symm); have HL := Lib.hid (And.intro (cell_lt d0) HC2.out.lt); replace d0 := past d0 (.cells #[.int .i64 k, .int .i64 o, .int .i64 vk, .int .i64 vn, .string (Ep.txt vs), .string (Ep.txt nm), .slice A1 n1 c1] tE); replace d1 := past d1 (.cells #[.int .i64 k, .int .i64 o, .int .i64 vk, .int .i64 vn, .string (Ep.txt vs), .string (Ep.txt nm), .slice A1 n1 c1] tE); replace d2 := past d2 (.cells #[.int .i64 k, .int .i64 o, .int .i64 vk, .int .i64 vn, .string (Ep.txt vs), .string (Ep.txt nm), .slice A1 n1 c1] tE); have HC3 := Lib.hid (HC2.out.alloc (.cells #[.int .i64 k, .int .i64 o, .int .i64 vk, .int .i64 vn, .string (Ep.txt vs), .string (Ep.txt nm), .slice A1 n1 c1] tE)); have HB3 := Lib.hid (al (Mem.on HB1.out hb2) (.cells #[.int .i64 k, .int .i64 o, .int .i64 vk, .int .i64 vn, .string (Ep.txt vs), .string (Ep.txt nm), .slice A1 n1 c1] tE)); have x0 := HC3.out.at_ 0; have x1 := HC3.out.at_ 1; have x2 := HC3.out.at_ 2; have x3 := HC3.out.at_ 3; have x4 := HC3.out.at_ 4; have x5 := HC3.out.at_ 5; have x6 := HC3.out.at_ 6; have f0 := fun i => HC3.out.open_ i; have m3 : ¬ b = w2.heap.size := (by have := HL.out.1; omega); have m4 : ¬ w.heap.size = w2.heap.size := (by have := HL.out.2; omega); have HD3 := Lib.hid (show Cel (w2.alloc (.cells #[.int .i64 k, .int .i64 o, .int .i64 vk, .int .i64 vn, .string (Ep.txt vs), .string (Ep.txt nm), .slice A1 n1 c1] tE)) w2.heap.size tE #[.int .i64 k, .int .i64 o, .int .i64 vk, .int .i64 vn, .string (Ep.txt vs), .string (Ep.txt nm), .slice A1 n1 c1] from Cel.new _ _ _ rfl); have y0 := HD3.out.at_ 0; have y1 := HD3.out.at_ 1; have y2 := HD3.out.at_ 2; have y3 := HD3.out.at_ 3; have y4 := HD3.out.at_ 4; have y5 := HD3.out.at_ 5; have y6 := HD3.out.at_ 6; clear hxa hxb hb2))
  have k0 := (((((((HC3.out.set 0 (Value.int .i64 k)).set 1 (Value.int .i64 o)).set 2 (Value.int .i64 vk)).set 3 (Value.int .i64 vn)).set 4 (Value.string (Ep.txt vs))).set 5 (Value.string (Ep.txt nm))).set 6 (Value.slice A1 n1 c1))
  simp only [List.setIfInBounds_toArray, List.set_cons_zero, List.set_cons_succ] at k0
  have h0 := Nat.le_refl w.heap.size
  have hlt := HC1.out.lt
  have hin := ExIn.to (S' := fun b => b < ((((((((w2.alloc (.cells #[.int .i64 k, .int .i64 o, .int .i64 vk, .int .i64 vn, .string (Ep.txt vs), .string (Ep.txt nm), .slice A1 n1 c1] tE)).setCell ⟨w.heap.size, 0, none⟩ (Value.int .i64 k)).setCell ⟨w.heap.size, 1, none⟩ (Value.int .i64 o)).setCell ⟨w.heap.size, 2, none⟩ (Value.int .i64 vk)).setCell ⟨w.heap.size, 3, none⟩ (Value.int .i64 vn)).setCell ⟨w.heap.size, 4, none⟩ (Value.string (Ep.txt vs))).setCell ⟨w.heap.size, 5, none⟩ (Value.string (Ep.txt nm))).setCell ⟨w.heap.size, 6, none⟩ (Value.slice A1 n1 c1)).heap.size) (w' := (((((((w2.alloc (.cells #[.int .i64 k, .int .i64 o, .int .i64 vk, .int .i64 vn, .string (Ep.txt vs), .string (Ep.txt nm), .slice A1 n1 c1] tE)).setCell ⟨w.heap.size, 0, none⟩ (Value.int .i64 k)).setCell ⟨w.heap.size, 1, none⟩ (Value.int .i64 o)).setCell ⟨w.heap.size, 2, none⟩ (Value.int .i64 vk)).setCell ⟨w.heap.size, 3, none⟩ (Value.int .i64 vn)).setCell ⟨w.heap.size, 4, none⟩ (Value.string (Ep.txt vs))).setCell ⟨w.heap.size, 5, none⟩ (Value.string (Ep.txt nm))).setCell ⟨w.heap.size, 6, none⟩ (Value.slice A1 n1 c1)) (fun b hb => by simp; omega) (fun p hb => World.cell?_of_block ((Below.heap_setCell _ ⟨w.heap.size, 6, none⟩ (Value.slice A1 n1 c1) _ (by show _ ≠ w.heap.size; have := hb.1; omega)).trans ((Below.heap_setCell _ ⟨w.heap.size, 5, none⟩ (Value.string (Ep.txt nm)) _ (by show _ ≠ w.heap.size; have := hb.1; omega)).trans ((Below.heap_setCell _ ⟨w.heap.size, 4, none⟩ (Value.string (Ep.txt vs)) _ (by show _ ≠ w.heap.size; have := hb.1; omega)).trans ((Below.heap_setCell _ ⟨w.heap.size, 3, none⟩ (Value.int .i64 vn) _ (by show _ ≠ w.heap.size; have := hb.1; omega)).trans ((Below.heap_setCell _ ⟨w.heap.size, 2, none⟩ (Value.int .i64 vk) _ (by show _ ≠ w.heap.size; have := hb.1; omega)).trans ((Below.heap_setCell _ ⟨w.heap.size, 1, none⟩ (Value.int .i64 o) _ (by show _ ≠ w.heap.size; have := hb.1; omega)).trans ((Below.heap_setCell _ ⟨w.heap.size, 0, none⟩ (Value.int .i64 k) _ (by show _ ≠ w.heap.size; have := hb.1; omega)).trans (heap_alloc_old _ _ hb.2))))))))) _ _ HXB.out
  exact parse_end (V := (x, 0, 0)) _ w.heap.size rfl rfl rfl k0 hin (Below.setCell (p := ⟨w.heap.size, 6, none⟩) (Below.setCell (p := ⟨w.heap.size, 5, none⟩) (Below.setCell (p := ⟨w.heap.size, 4, none⟩) (Below.setCell (p := ⟨w.heap.size, 3, none⟩) (Below.setCell (p := ⟨w.heap.size, 2, none⟩) (Below.setCell (p := ⟨w.heap.size, 1, none⟩) (Below.setCell (p := ⟨w.heap.size, 0, none⟩) HB3.out h0 (Value.int .i64 k)) h0 (Value.int .i64 o)) h0 (Value.int .i64 vk)) h0 (Value.int .i64 vn)) h0 (Value.string (Ep.txt vs))) h0 (Value.string (Ep.txt nm))) h0 (Value.slice A1 n1 c1))
end Go.Proofs.YtlkmhdbmcfblkaaGreatDoor.Ep
/- Parse of any text: what it answers. -/
namespace Go.Proofs.YtlkmhdbmcfblkaaGreatDoor.Ep
open Go.RowKit Go.Proofs.YtlkmhdbmcfblkaaGreatDoor.Mem Go.Proofs.YtlkmhdbmcfblkaaGreatDoor.Right Go.Proofs.YtlkmhdbmcfblkaaGreatDoor.Lx
set_option linter.unusedVariables false

/-- What the grammar reads of tokens, and where. -/
def Reads11 (L : List To) (R : Res Ex) : Prop := Ev (fun n => rankP (Ts L) n 1 0) R ∧ ∀ q, R ≠ .err 99 q
/-- What Parse tells of a text. -/
def Told (l : List UInt8) (V : Ex × Int × Int) : Prop :=
  (∃ ts p e, toksV l = (ts, p, e) ∧ e ≠ 0 ∧ V = (exZ, (p : Int), (e : Int))) ∨ ∃ ts p R, toksV l = (ts, p, 0) ∧ Reads11 (lOf ts) R ∧ V = parseR (lOf ts) R
theorem reads_some (L : List To) : ∃ R, Reads11 L R := by
  obtain ⟨R, h, -, h99⟩ := total (L := Ts L) ((Ts L).length) 0 (by omega) 1 (by decide) (by decide)
  exact ⟨R, h, fun q e => h99 _ _ e rfl⟩
theorem told_some (l : List UInt8) : ∃ V, Told l V := by
  obtain ⟨⟨ts, p, e⟩, hR⟩ : ∃ r, toksV l = r := ⟨_, rfl⟩
  by_cases he : e = 0
  · obtain ⟨R, h⟩ := reads_some (lOf ts)
    exact ⟨_, .inr ⟨ts, p, R, by rw [hR, he], h, rfl⟩⟩
  · exact ⟨_, .inl ⟨ts, p, e, hR, he, rfl⟩⟩
theorem cut_len : ∀ (l : List Tk) {s : List UInt8} {a n p : Nat}, cut s a n = (l, p, 0) → n ≤ 120 → l.length + n ≤ 120
  | [], s, a, n, p, h, hn => by simp; omega
  | t :: l, s, a, n, p, h, hn => by
    obtain ⟨h1, -, h2⟩ := cut_ok h
    rcases h2 with ⟨-, e⟩ | ⟨u, k, m, l', -, -, hc, e⟩
    · injection e with e1 e2
      subst e2
      simp; omega
    · injection e with e1 e2
      subst e2
      have := cut_len l hc (by omega)
      rw [List.length_cons]; omega
theorem takeR_in {L : List To} (hok : toksOk L = true) (hL : Rts L) {R : Res Ex} (h : Reads11 L R) : (takeR L R).2.1 < L.length := by
  obtain ⟨⟨F, hF⟩, h99⟩ := h
  have hi := (inner hL.2.2 F).rank 1 0 (by rw [List.length_map]; exact (toksOk_iff.1 hok).1)
  rw [show rankP (List.map toTt L) F 1 0 = R from hF F (Nat.le_refl _)] at hi
  unfold takeR
  rw [if_neg (by rw [hok]; decide)]
  cases R with
  | err e q =>
    rcases hi with hi | hi
    · exact absurd (by rw [hi]) (h99 q)
    · rw [List.length_map] at hi
      exact hi
  | ok x q =>
    have := hi.2
    rw [List.length_map] at this
    show (if high x = true then (exZ, 0, (17 : Int)) else (x, q, 0)).2.1 < _
    split
    · exact (toksOk_iff.1 hok).1
    · exact this
theorem parse_any {w : World} (s : ByteArray) (hs : s.size ≤ 1000000) (hw : Wd w) {V : Ex × Int × Int} (h : Told s.data.toList V) : Calls Tryz.prog 19 #[.string s] w (ParseL w V) := by
  rcases h with ⟨ts, p, e, hR, he, rfl⟩ | ⟨ts, p, R, hR, hrd, rfl⟩
  · exact parse_lex s hs hw hR he
  obtain ⟨hok, hx, -⟩ := lex_ok hR
  have hlen : (lOf ts).length ≤ 1000 := by
    unfold toksV at hR
    split at hR
    · cases hR
    · have := cut_len _ hR (by decide)
      unfold lOf
      rw [List.length_map]
      omega
  have hx' : ∀ x ∈ lOf ts, x.text.length ≤ 1000000 := fun x h => Nat.le_trans (hx x h) (by decide)
  have hq := takeR_in hok (rts_of hok hlen hx') hrd
  obtain ⟨⟨F, hF⟩, h99⟩ := hrd
  have hT : ∀ W A n c, n = (lOf ts).length → Below w.heap.size w W → ToksIn W (fun b => b < W.heap.size) A (lOf ts) → Calls Tryz.prog 7 #[.slice A n c] W (TakeL W (takeR (lOf ts) R)) := fun W A n c hn hb ht =>
    take_any ((hw.below hb).base ht) hn (by omega) hx' (hF F (Nat.le_refl _)) h99
  unfold parseR
  obtain ⟨⟨x, q, f⟩, hV⟩ : ∃ V, takeR (lOf ts) R = V := ⟨_, rfl⟩
  rw [hV] at hT hq ⊢
  obtain ⟨y, hy⟩ := to_some hq
  have e1 : atL (lOf ts) q = y.at_ := by unfold atL; rw [show (lOf ts)[q]? = some y from hy]
  have e2 : kiL (lOf ts) q = y.kind := by unfold kiL; rw [show (lOf ts)[q]? = some y from hy]
  show Calls _ _ _ _ (ParseL w (if f ≠ 0 then (exZ, atL (lOf ts) q, f) else if kiL (lOf ts) q ≠ 7 then (exZ, atL (lOf ts) q, 16) else (x, 0, 0)))
  rw [e1, e2]
  by_cases hf : f = 0
  · rw [if_neg (by simpa using hf)]
    by_cases hk : y.kind = 7
    · rw [if_neg (by simpa using hk)]
      exact parse_ok s hs hw hR hT hy hf hk
    · rw [if_pos hk]
      exact parse_more s hs hw hR hT hy hf hk
  · rw [if_pos hf]
    exact parse_err s hs hw hR hT hy hf
end Go.Proofs.YtlkmhdbmcfblkaaGreatDoor.Ep
/- No part is refused without an error's number. -/
namespace Go.Proofs.YtlkmhdbmcfblkaaGreatDoor.Ep
open Go.RowKit Go.Proofs.YtlkmhdbmcfblkaaGreatDoor.Mem Go.Proofs.YtlkmhdbmcfblkaaGreatDoor.Right Go.Proofs.YtlkmhdbmcfblkaaGreatDoor.Lx
set_option linter.unusedVariables false

def Nz {α : Type} (R : Res α) : Prop := ∀ e q, R = .err e q → e ≠ 0
theorem Nz.ok {α : Type} (x : α) (q : Nat) : Nz (.ok x q) := fun e p h => by cases h
theorem Nz.er {α : Type} {e : Int} (h : e ≠ 0) (q : Nat) : Nz (.err e q : Res α) := fun e' p h' => by injection h' with h1 h2; subst h1; exact h
theorem Nz.bind {α β : Type} {R : Res α} {g : α → Nat → Res β} (h : Nz R) (k : ∀ x q, Nz (g x q)) : Nz (R.bind g) := by
  cases R with
  | ok x q => exact k x q
  | err e q => exact Nz.er (h e q rfl) q
structure Nzs (L : List Tt) (n : Nat) : Prop where
  rank : ∀ r p, Nz (rankP L n r p)
  loop : ∀ r x p, Nz (loopP L n r x p)
  is : ∀ p, Nz (isP L n p)
  list : ∀ most p, Nz (listP L n most p)
  more : ∀ most d p, Nz (moreP L n most d p)
  one : ∀ p, Nz (oneP L n p)
theorem nzs (L : List Tt) : ∀ n, Nzs L n
  | 0 => by
    refine ⟨fun r p => ?_, fun r x p => ?_, fun p => ?_, fun m p => ?_, fun m d p => ?_, fun p => ?_⟩
    · rw [rankP]; exact Nz.er (by decide) _
    · rw [loopP]; exact Nz.er (by decide) _
    · rw [isP]; exact Nz.er (by decide) _
    · rw [listP]; exact Nz.er (by decide) _
    · rw [moreP]; exact Nz.er (by decide) _
    · rw [oneP]; exact Nz.er (by decide) _
  | n + 1 => by
    have ih := nzs L n
    refine ⟨fun r p => ?_, fun r x p => ?_, fun p => ?_, fun m p => ?_, fun m d p => ?_, fun p => ?_⟩
    · rw [rankP]
      repeat' split
      all_goals first | exact ih.rank _ _ | exact ih.is _ | exact ih.one _ | exact (ih.rank _ _).bind fun _ _ => Nz.ok _ _ | exact (ih.rank _ _).bind fun _ _ => ih.loop _ _ _
    · rw [loopP]
      split
      · exact Nz.ok _ _
      · exact (ih.rank _ _).bind fun _ _ => ih.loop _ _ _
    · rw [isP]
      refine (ih.rank _ _).bind fun a s => ?_
      repeat' split
      all_goals first | exact Nz.ok _ _ | exact Nz.er (by decide) _ | exact (ih.rank _ _).bind fun _ _ => Nz.ok _ _ | exact (ih.list _ _).bind fun _ _ => Nz.ok _ _
    · rw [listP]
      split
      · exact (ih.rank _ _).bind fun _ _ => ih.more _ _ _
      · exact Nz.er (by decide) _
    · rw [moreP]
      repeat' split
      all_goals first | exact Nz.ok _ _ | exact Nz.er (by decide) _ | exact (ih.rank _ _).bind fun _ _ => ih.more _ _ _
    · rw [oneP]
      split
      · split
        · exact Nz.ok _ _
        · rename_i h; exact Nz.er h _
      repeat' split
      all_goals first | exact Nz.ok _ _ | exact Nz.er (by decide) _ | exact (ih.list _ _).bind fun _ _ => Nz.ok _ _ | (refine (ih.rank _ _).bind fun _ _ => ?_; split; exact Nz.ok _ _; exact Nz.er (by decide) _)
theorem Ev.one {α : Type} {f : Nat → Res α} {r s : Res α} (h : Ev f r) (k : Ev f s) : r = s := by
  obtain ⟨F, h⟩ := h
  obtain ⟨G, k⟩ := k
  rw [← h (F + G) (by omega), k (F + G) (by omega)]
theorem reads_nz {L : List To} {R : Res Ex} (h : Reads11 L R) : Nz R := by
  obtain ⟨⟨F, hF⟩, -⟩ := h
  have := (nzs (Ts L) F).rank 1 0
  rwa [show rankP (Ts L) F 1 0 = R from hF F (Nat.le_refl _)] at this
theorem ts_kt (ts : List Tk) : Ts (lOf ts) = ts.map kt := by
  unfold Ts lOf
  rw [List.map_map]
  refine List.map_congr_left fun t _ => ?_
  show (((t.kind : Int)).toNat, t.text) = (t.kind, t.text)
  rw [Int.toNat_natCast]
theorem parseR_ok {L : List To} (hok : toksOk L = true) {x : Ex} {q : Nat} (hh : high x = false) : parseR L (.ok x q) = if kiL L q ≠ 7 then (exZ, atL L q, 16) else (x, 0, 0) := by
  have e : takeR L (.ok x q) = (x, q, 0) := by
    unfold takeR
    rw [if_neg (by rw [hok]; decide)]
    show (if high x = true then (exZ, 0, (17 : Int)) else (x, q, 0)) = _
    rw [if_neg (by rw [hh]; decide)]
  unfold parseR
  rw [e]
  show (if (0 : Int) ≠ 0 then (exZ, atL L q, (0 : Int)) else if kiL L q ≠ 7 then (exZ, atL L q, 16) else (x, 0, 0)) = _
  rw [if_neg (by decide)]
theorem parseR_deep {L : List To} (hok : toksOk L = true) {x : Ex} {q : Nat} (hh : high x = true) : parseR L (.ok x q) = (exZ, atL L 0, 17) := by
  have e : takeR L (.ok x q) = (exZ, 0, 17) := by
    unfold takeR
    rw [if_neg (by rw [hok]; decide)]
    show (if high x = true then (exZ, 0, (17 : Int)) else (x, q, 0)) = _
    rw [if_pos hh]
  unfold parseR
  rw [e]
  show (if (17 : Int) ≠ 0 then (exZ, atL L 0, (17 : Int)) else if kiL L 0 ≠ 7 then (exZ, atL L 0, 16) else (exZ, 0, 0)) = _
  rw [if_pos (by decide)]
theorem parseR_err {L : List To} (hok : toksOk L = true) {e : Int} {q : Nat} (he : e ≠ 0) : parseR L (.err e q) = (exZ, atL L q, e) := by
  have h : takeR L (.err e q) = (exZ, q, e) := by
    unfold takeR
    rw [if_neg (by rw [hok]; decide)]
  unfold parseR
  rw [h]
  show (if e ≠ 0 then (exZ, atL L q, e) else if kiL L q ≠ 7 then (exZ, atL L q, 16) else (exZ, 0, 0)) = _
  rw [if_pos he]
/-- The end is at the last token, and there alone. -/
theorem ki_last {ts : List Tk} (hok : toksOk (lOf ts) = true) {q : Nat} (hq : q < ts.length) : kiL (lOf ts) q = 7 ↔ q + 1 = ts.length := by
  obtain ⟨y, hy⟩ := to_some (L := lOf ts) (p := q) (by unfold lOf; rw [List.length_map]; omega)
  have := (toksOk_iff.1 hok).2 _ y hy
  unfold okTok at this
  rw [Bool.and_eq_true, beq_iff_eq] at this
  have h2 := this.2
  have hl : (lOf ts).length = ts.length := by unfold lOf; rw [List.length_map]
  rw [hl] at h2
  unfold kiL
  rw [show (lOf ts)[q]? = some y from hy]
  show y.kind = 7 ↔ _
  constructor
  · intro e
    rw [decide_eq_true e] at h2
    exact of_decide_eq_true h2
  · intro e
    rw [decide_eq_true e] at h2
    exact of_decide_eq_true h2.symm
/-- A tree is told: of which tokens. -/
theorem told_yes {l : List UInt8} {V : Ex × Int × Int} (h : Told l V) (h0 : V.2.2 = 0) : ∃ ts p x q, toksV l = (ts, p, 0) ∧ Ev (fun n => rankP (Ts (lOf ts)) n 1 0) (.ok x q) ∧ high x = false ∧ q + 1 = ts.length ∧ V = (x, 0, 0) := by
  rcases h with ⟨ts, p, e, hR, he, rfl⟩ | ⟨ts, p, R, hR, hrd, rfl⟩
  · exact absurd (by simpa using h0) he
  · obtain ⟨hok, hx, -⟩ := lex_ok hR
    have hnz := reads_nz hrd
    cases R with
    | err e q =>
      rw [parseR_err hok (hnz e q rfl)] at h0
      exact absurd h0 (hnz e q rfl)
    | ok x q =>
      cases hh : high x with
      | true => rw [parseR_deep hok hh] at h0; cases h0
      | false =>
        rw [parseR_ok hok hh] at h0 ⊢
        by_cases hk : kiL (lOf ts) q = 7
        · rw [if_neg (by simpa using hk)]
          refine ⟨ts, p, x, q, hR, hrd.1, hh, ?_, rfl⟩
          have hq : q < ts.length := by
            rcases Nat.lt_or_ge q ts.length with h | h
            · exact h
            · unfold kiL at hk
              rw [show (lOf ts)[q]? = none from List.getElem?_eq_none (by unfold lOf; rw [List.length_map]; exact h)] at hk
              cases hk
          exact (ki_last hok hq).1 hk
        · rw [if_pos hk] at h0; cases h0
/-- What is told of a text of which the tokens are known. -/
theorem told_of {l : List UInt8} {V : Ex × Int × Int} (h : Told l V) (hl : l.length ≤ 400) {T : List Tt} (hc : ct l 0 = (T ++ [(7, [])], 0)) {x : Ex} (hx : Ev (fun n => rankP (T ++ [(7, [])]) n 1 0) (.ok x T.length)) (hh : high x = false) : V = (x, 0, 0) := by
  have hv : toksV l = cut l 0 0 := by unfold toksV; rw [if_neg (by omega)]
  have h1 : (cut l 0 0).1.map kt = T ++ [(7, [])] := congrArg Prod.fst hc
  have h2 : (cut l 0 0).2.2 = 0 := congrArg Prod.snd hc
  rcases h with ⟨ts, p, e, hR, he, rfl⟩ | ⟨ts, p, R, hR, hrd, rfl⟩
  · rw [← hv, hR] at h2
    exact absurd h2 he
  · obtain ⟨hok, -, -⟩ := lex_ok hR
    rw [← hv, hR] at h1
    have h1 : ts.map kt = T ++ [(7, [])] := h1
    have e1 := hrd.1
    rw [ts_kt, h1] at e1
    obtain rfl := e1.one hx
    have hlen : ts.length = T.length + 1 := by
      have := congrArg List.length h1
      simpa using this
    rw [parseR_ok hok hh, if_neg (by rw [(ki_last hok (by omega)).2 hlen.symm]; decide)]
/-- .. and of one that has an error. -/
theorem told_not {l : List UInt8} {V : Ex × Int × Int} (h : Told l V) (hl : l.length ≤ 400) {T : List Tt} {e : Nat} (hc : ct l 0 = (T, e)) (he : e ≠ 0) : V.1 = exZ ∧ V.2.2 = e := by
  have hv : toksV l = cut l 0 0 := by unfold toksV; rw [if_neg (by omega)]
  have h2 : (cut l 0 0).2.2 = e := congrArg Prod.snd hc
  rcases h with ⟨ts, p, e', hR, he', rfl⟩ | ⟨ts, p, R, hR, hrd, rfl⟩
  · rw [← hv, hR] at h2
    have h2 : e' = e := h2
    subst h2
    exact ⟨rfl, rfl⟩
  · rw [← hv, hR] at h2
    exact absurd h2.symm he
end Go.Proofs.YtlkmhdbmcfblkaaGreatDoor.Ep
