import Derived.Test.YtlkmhdbmcfblkaaGreatDoorExOnes
/- Take: the expression with which tokens begin, by the document's words. -/
namespace Go.Proofs.YtlkmhdbmcfblkaaGreatDoor.Ep
open Go.RowKit Go.Proofs.YtlkmhdbmcfblkaaGreatDoor.Mem Go.Proofs.YtlkmhdbmcfblkaaGreatDoor.Right Go.Proofs.YtlkmhdbmcfblkaaGreatDoor.Lx
set_option linter.unusedVariables false

/-- What the calls read, wherever it lies below. -/
structure Base (w : World) (A : Option Addr) (L : List To) : Prop where
  toks : ToksIn w (fun b => b < w.heap.size) A L
  esg : Esg w w.heap.size
  signs : Signs w
  max : ∃ m : Int, w.cell? ⟨2, 0, none⟩ = some (.int .i64 m)
theorem Base.env {w W : World} {A : Option Addr} {L : List To} (h : Base w A L) (hb : Below w.heap.size w W) {B : Nat} (hB : w.heap.size ≤ B) : Env W B A L := by
  have hg : 0 < w.heap.size := by
    obtain ⟨b, o, c, h1, h2, h3⟩ := h.esg
    exact cell_lt h2
  obtain ⟨m, hm⟩ := h.max
  have hmx := cell_lt hm
  refine ⟨fun j x hx => ?_, ?_, h.signs.below hb h.signs.lt, ⟨m, (hb.cell (p := ⟨2, 0, none⟩) hmx).trans hm⟩, by omega, ?_, by omega⟩
  · obtain ⟨b, o, h1, h2, h3, h4, h5⟩ := h.toks j x hx
    exact ⟨b, o, h1, Nat.lt_of_lt_of_le h2 hB, (hb.cell (p := ⟨b, o + j * 3, none⟩) h2).trans h3, (hb.cell (p := ⟨b, o + j * 3 + 1, none⟩) h2).trans h4, (hb.cell (p := ⟨b, o + j * 3 + 2, none⟩) h2).trans h5⟩
  · obtain ⟨b, o, c, h1, h2, h3⟩ := h.esg.below hb (Nat.le_refl _) hg
    exact ⟨b, o, c, by omega, h2, h3⟩
  · have := h.signs.lt; omega
/-- What Take answers. -/
def takeR (L : List To) (R : Res Ex) : Ex × Nat × Int :=
  if toksOk L = false then (exZ, 0, 2) else match R with
  | .ok x q => if high x = true then (exZ, 0, 17) else (x, q, 0)
  | .err c q => (exZ, q, c)
theorem ps_new {w : World} {B : Nat} {tk : Value} (h : Cel w B tPs #[tk, .int .i64 0, .slice none 0 0, .bool false]) : Ps w B tk 0 [] false := ⟨.slice none 0 0, h, fun _ => False, OwnT.nil _ _ _ _, fun b hb => hb.elim⟩
/-- What a call of Take leaves. -/
def TakeL (w : World) (V : Ex × Nat × Int) (e : Ending) (w' : World) : Prop := ∃ cs, e = .returned (.tuple #[.agg (List.toArray cs), .int .i64 (V.2.1 : Int), .int .i64 V.2.2]) ∧ ExIn w' (fun b => w.heap.size ≤ b ∧ b < w'.heap.size) V.1 cs ∧ Below w.heap.size w w'
theorem TakeL.zero {w w' : World} {q : Nat} {c : Int} (hb : Below w.heap.size w w') : TakeL w (exZ, q, c) (.returned (.tuple #[.agg zC.toArray, .int .i64 (q : Int), .int .i64 c])) w' := ⟨zC, rfl, zC_in _ _, hb⟩
theorem take_results (tmps : Array Value) (b0 b1 b2 : Nat) (g0 : tmps[2]? = some (.pointer (some ⟨b0, 0, none⟩))) (g1 : tmps[3]? = some (.pointer (some ⟨b1, 0, none⟩))) (g2 : tmps[4]? = some (.pointer (some ⟨b2, 0, none⟩))) {w : World} {t0 t1 t2 : TypeId} {z0 z1 z2 z3 z4 z5 z6 u1 u2 : Value}
    (h0 : Cel w b0 t0 #[z0, z1, z2, z3, z4, z5, z6]) (h1 : Cel w b1 t1 #[u1]) (h2 : Cel w b2 t2 #[u2]) : (results Tryz.f7 tmps).run Tryz.prog w = .ok (.tuple #[.agg #[z0, z1, z2, z3, z4, z5, z6], u1, u2]) w := by
  have x0 : w.cell? ⟨b0, 0, none⟩ = some z0 := h0.at_ 0
  have x1 : w.cell? ⟨b0, 1, none⟩ = some z1 := h0.at_ 1
  have x2 : w.cell? ⟨b0, 2, none⟩ = some z2 := h0.at_ 2
  have x3 : w.cell? ⟨b0, 3, none⟩ = some z3 := h0.at_ 3
  have x4 : w.cell? ⟨b0, 4, none⟩ = some z4 := h0.at_ 4
  have x5 : w.cell? ⟨b0, 5, none⟩ = some z5 := h0.at_ 5
  have x6 : w.cell? ⟨b0, 6, none⟩ = some z6 := h0.at_ 6
  have y1 : w.cell? ⟨b1, 0, none⟩ = some u1 := h1.at_ 0
  have y2 : w.cell? ⟨b2, 0, none⟩ = some u2 := h2.at_ 0
  simp [results, Tryz.f7, g0, g1, g2]
  go_simp
/-- At the door, when nothing is left to be done. -/
theorem take_leaves {w : World} {V : Ex × Nat × Int} (tmps : Array Value) (b0 b1 b2 : Nat) (g0 : tmps[2]? = some (.pointer (some ⟨b0, 0, none⟩))) (g1 : tmps[3]? = some (.pointer (some ⟨b1, 0, none⟩))) (g2 : tmps[4]? = some (.pointer (some ⟨b2, 0, none⟩))) {W : World} {t0 t1 t2 : TypeId} {z0 z1 z2 z3 z4 z5 z6 : Value}
    (h0 : Cel W b0 t0 #[z0, z1, z2, z3, z4, z5, z6]) (h1 : Cel W b1 t1 #[.int .i64 (V.2.1 : Int)]) (h2 : Cel W b2 t2 #[.int .i64 V.2.2]) (hx : ExIn W (fun b => w.heap.size ≤ b ∧ b < W.heap.size) V.1 [z0, z1, z2, z3, z4, z5, z6]) (hb : Below w.heap.size w W) : Leaves Tryz.prog Tryz.f7 tmps (TakeL w V) [] .returning W :=
  ⟨_, take_results tmps b0 b1 b2 g0 g1 g2 h0 h1 h2, [z0, z1, z2, z3, z4, z5, z6], rfl, hx, hb⟩
set_option maxRecDepth 100000 in
set_option maxHeartbeats 2000000 in
theorem take_not {w : World} {A : Option Addr} {n c : Nat} {L : List To} (hb : Base w A L) (hn : n = L.length) (hm : n ≤ 1000000) (hx : ∀ x ∈ L, x.text.length ≤ 1000000) (hok : toksOk L = false) :
    Calls Tryz.prog 7 #[.slice A n c] w (TakeL w (exZ, 0, 2)) := by
  obtain ⟨W0, hW0⟩ : ∃ W0, ((w.alloc (.cells #[.int .i64 0, .int .i64 0, .int .i64 0, .int .i64 0, .string ⟨#[]⟩, .string ⟨#[]⟩, .slice none 0 0] tE)).alloc (.cells #[.int .i64 0] 3)).alloc (.cells #[.int .i64 0] 33) = W0 := ⟨_, rfl⟩
  have hbl : Below w.heap.size w W0 := hW0 ▸ al (al (al (Below.refl _ _) _) _) _
  have c0 : Cel W0 w.heap.size tE #[.int .i64 0, .int .i64 0, .int .i64 0, .int .i64 0, .string ⟨#[]⟩, .string ⟨#[]⟩, .slice none 0 0] := hW0 ▸ ((Cel.new w tE _ rfl).alloc _).alloc _
  have c1 : Cel W0 (w.heap.size + 1) 3 #[.int .i64 0] := hW0 ▸ (Cel.new (w.alloc _) _ _ (by simp)).alloc _
  have c2 : Cel W0 (w.heap.size + 1 + 1) 33 #[.int .i64 0] := hW0 ▸ Cel.new _ _ _ (by simp)
  have HA := Lib.hid (show Calls Tryz.prog 20 #[.slice A n c] W0 fun e w' => e = .returned (.bool false) ∧ Below W0.heap.size W0 w' from by
    have h2 : ToksIn W0 (fun b => b < W0.heap.size) A L := fun j x hxj => by
      obtain ⟨b, o, h1, h2, h3, h4, h5⟩ := hb.toks j x hxj
      exact ⟨b, o, h1, Nat.lt_of_lt_of_le h2 hbl.size, (hbl.cell (p := ⟨b, o + j * 3, none⟩) h2).trans h3, (hbl.cell (p := ⟨b, o + j * 3 + 1, none⟩) h2).trans h4, (hbl.cell (p := ⟨b, o + j * 3 + 2, none⟩) h2).trans h5⟩
    have := areTokens_any (c := c) h2 hn hm hx (hb.signs.below hbl hb.signs.lt)
    rwa [hok] at this)
  have HC := Lib.hid (And.intro c0 (And.intro c1 c2))
  have HB := Lib.hid hbl
  clear hb hn hm hx hok c0 c1 c2 hbl
  go_enter_defers Tryz.func7, Tryz.ntmps7
  go_wp2_with (go_at_call 20; (refine HA.out.mono ?_); rintro e' w1 ⟨rfl, hb1⟩; have HB1 := Lib.hid (Mem.on HB.out hb1); have HC1 := Lib.hid (And.intro (HC.out.1.below hb1) (And.intro (HC.out.2.1.below hb1) (HC.out.2.2.below hb1))); have x0 := HC1.out.1.at_ 0; have x1 := HC1.out.1.at_ 1; have x2 := HC1.out.1.at_ 2; have x3 := HC1.out.1.at_ 3; have x4 := HC1.out.1.at_ 4; have x5 := HC1.out.1.at_ 5; have x6 := HC1.out.1.at_ 6; have y0 := HC1.out.2.1.at_ 0; have z0 := HC1.out.2.2.at_ 0; have f0 := fun i => HC1.out.1.open_ i; have f1 := HC1.out.2.1.open_ 0; have f2 := HC1.out.2.2.open_ 0; clear hb1)
  have k0 := ((((((((HC1.out.1.set 0 (.int .i64 0)).set 1 (.int .i64 0)).set 2 (.int .i64 0)).set 3 (.int .i64 0)).set 4 (.string ⟨#[]⟩)).set 5 (.string ⟨#[]⟩)).set 6 (.slice none 0 0)).other (b := w.heap.size + 1) (by omega) 0 (.int .i64 0)).other (b := w.heap.size + 1 + 1) (by omega) 0 (.int .i64 2)
  simp only [List.setIfInBounds_toArray, List.set_cons_zero, List.set_cons_succ] at k0
  have k1 := ((((((((HC1.out.2.1.other (b := w.heap.size) (by omega) 0 (.int .i64 0)).other (b := w.heap.size) (by omega) 1 (.int .i64 0)).other (b := w.heap.size) (by omega) 2 (.int .i64 0)).other (b := w.heap.size) (by omega) 3 (.int .i64 0)).other (b := w.heap.size) (by omega) 4 (.string ⟨#[]⟩)).other (b := w.heap.size) (by omega) 5 (.string ⟨#[]⟩)).other (b := w.heap.size) (by omega) 6 (.slice none 0 0)).set 0 (.int .i64 0)).other (b := w.heap.size + 1 + 1) (by omega) 0 (.int .i64 2)
  have k2 := ((((((((HC1.out.2.2.other (b := w.heap.size) (by omega) 0 (.int .i64 0)).other (b := w.heap.size) (by omega) 1 (.int .i64 0)).other (b := w.heap.size) (by omega) 2 (.int .i64 0)).other (b := w.heap.size) (by omega) 3 (.int .i64 0)).other (b := w.heap.size) (by omega) 4 (.string ⟨#[]⟩)).other (b := w.heap.size) (by omega) 5 (.string ⟨#[]⟩)).other (b := w.heap.size) (by omega) 6 (.slice none 0 0)).other (b := w.heap.size + 1) (by omega) 0 (.int .i64 0)).set 0 (.int .i64 2)
  simp only [List.setIfInBounds_toArray, List.set_cons_zero] at k1 k2
  have h0 := Nat.le_refl w.heap.size
  have h1 := Nat.le_succ w.heap.size
  have h2 := Nat.le_trans h1 (Nat.le_succ (w.heap.size + 1))
  have kb := ((((((((HB1.out.setCell (p := ⟨w.heap.size, 0, none⟩) h0 (.int .i64 0)).setCell (p := ⟨w.heap.size, 1, none⟩) h0 (.int .i64 0)).setCell (p := ⟨w.heap.size, 2, none⟩) h0 (.int .i64 0)).setCell (p := ⟨w.heap.size, 3, none⟩) h0 (.int .i64 0)).setCell (p := ⟨w.heap.size, 4, none⟩) h0 (.string ⟨#[]⟩)).setCell (p := ⟨w.heap.size, 5, none⟩) h0 (.string ⟨#[]⟩)).setCell (p := ⟨w.heap.size, 6, none⟩) h0 (.slice none 0 0)).setCell (p := ⟨w.heap.size + 1, 0, none⟩) h1 (.int .i64 0)).setCell (p := ⟨w.heap.size + 1 + 1, 0, none⟩) h2 (.int .i64 2)
  exact take_leaves (V := (exZ, 0, 2)) _ w.heap.size (w.heap.size + 1) (w.heap.size + 1 + 1) rfl rfl rfl k0 k1 k2 (zC_in _ _) kb
end Go.Proofs.YtlkmhdbmcfblkaaGreatDoor.Ep
/- Take of right tokens: what the parser reads, or why it gave up. -/
namespace Go.Proofs.YtlkmhdbmcfblkaaGreatDoor.Ep
open Go.RowKit Go.Proofs.YtlkmhdbmcfblkaaGreatDoor.Mem Go.Proofs.YtlkmhdbmcfblkaaGreatDoor.Right Go.Proofs.YtlkmhdbmcfblkaaGreatDoor.Lx
set_option linter.unusedVariables false

set_option maxRecDepth 100000 in
set_option maxHeartbeats 2000000 in
theorem take_err {w : World} {A : Option Addr} {n c N : Nat} {L : List To} (hb : Base w A L) (hn : n = L.length) (hm : n ≤ 1000) (hx : ∀ x ∈ L, x.text.length ≤ 1000000) (hok : toksOk L = true) {e : Int} {q : Nat} (hR : rankP (Ts L) N 1 0 = .err e q) (h99 : e ≠ 99) :
    Calls Tryz.prog 7 #[.slice A n c] w (TakeL w (exZ, q, e)) := by
  have hL := rts_of hok (by omega) hx
  have hl0 : 0 < L.length := (toksOk_iff.1 hok).1
  obtain ⟨W0, hW0⟩ : ∃ W0, ((w.alloc (.cells #[.int .i64 0, .int .i64 0, .int .i64 0, .int .i64 0, .string ⟨#[]⟩, .string ⟨#[]⟩, .slice none 0 0] tE)).alloc (.cells #[.int .i64 0] 3)).alloc (.cells #[.int .i64 0] 33) = W0 := ⟨_, rfl⟩
  have hbl : Below w.heap.size w W0 := hW0 ▸ al (al (al (Below.refl _ _) _) _) _
  have c0 : Cel W0 w.heap.size tE #[.int .i64 0, .int .i64 0, .int .i64 0, .int .i64 0, .string ⟨#[]⟩, .string ⟨#[]⟩, .slice none 0 0] := hW0 ▸ ((Cel.new w tE _ rfl).alloc _).alloc _
  have c1 : Cel W0 (w.heap.size + 1) 3 #[.int .i64 0] := hW0 ▸ (Cel.new (w.alloc _) _ _ (by simp)).alloc _
  have c2 : Cel W0 (w.heap.size + 1 + 1) 33 #[.int .i64 0] := hW0 ▸ Cel.new _ _ _ (by simp)
  have HA := Lib.hid (show Calls Tryz.prog 20 #[.slice A n c] W0 fun e w' => e = .returned (.bool true) ∧ Below W0.heap.size W0 w' from by
    have h2 : ToksIn W0 (fun b => b < W0.heap.size) A L := fun j x hxj => by
      obtain ⟨b, o, h1, h2, h3, h4, h5⟩ := hb.toks j x hxj
      exact ⟨b, o, h1, Nat.lt_of_lt_of_le h2 hbl.size, (hbl.cell (p := ⟨b, o + j * 3, none⟩) h2).trans h3, (hbl.cell (p := ⟨b, o + j * 3 + 1, none⟩) h2).trans h4, (hbl.cell (p := ⟨b, o + j * 3 + 2, none⟩) h2).trans h5⟩
    have := areTokens_any (c := c) h2 hn (by omega) hx (hb.signs.below hbl hb.signs.lt)
    rwa [hok] at this)
  have HC := Lib.hid (And.intro c0 (And.intro c1 c2))
  have HB := Lib.hid hbl
  have HANY := Lib.hid (show ∀ W1, Below w.heap.size w W1 → w.heap.size ≤ W1.heap.size → Calls Tryz.prog 22 #[.pointer (some ⟨W1.heap.size, 0, none⟩)] (W1.alloc (.cells #[.slice A n c, .int .i64 0, .slice none 0 0, .bool false] tPs)) (Leaves1 (W1.alloc (.cells #[.slice A n c, .int .i64 0, .slice none 0 0, .bool false] tPs)) W1.heap.size (.slice A n c) [] false (.err e q)) from fun W1 h1 h2 =>
    ((all_read (B := W1.heap.size) (c := c) (A := A) hL hn N N (Nat.le_refl _)).any).got (ps_new (Cel.new W1 tPs _ rfl)) (hb.env (al h1 _) h2) hl0 (Nat.zero_le _) hR (fun q' e' => h99 (by injection e')))
  have hmf : ∀ (fn : Fn) (first cap : Array Value) (w : World), (Instr.makeFunc fn first cap).run Tryz.prog w = .ok (.func fn first cap) w := fun _ _ _ _ => rfl
  clear hb hx hok c0 c1 c2 hbl hL hl0 hR hn hm
  go_enter_defers Tryz.func7, Tryz.ntmps7
  go_wp2_with (first | (go_at_call 20; (refine HA.out.mono ?_); rintro e' w1 ⟨rfl, hb1⟩; have HB1 := Lib.hid (Mem.on HB.out hb1); have HC1 := Lib.hid (And.intro (HC.out.1.below hb1) (And.intro (HC.out.2.1.below hb1) (HC.out.2.2.below hb1))); have HS1 := Lib.hid (show w.heap.size + 1 + 1 < w1.heap.size from HC1.out.2.2.lt); clear hb1) | (go_at_call 22; (refine (HANY.out _ HB1.out (by have := HS1.out; omega)).mono ?_); rintro e' w2 ⟨hb2, he⟩; replace he : e' = gaveUp e q := he; unfold gaveUp at he; subst he; have HC2 := Lib.hid (show Cel w2 w.heap.size tE #[.int .i64 0, .int .i64 0, .int .i64 0, .int .i64 0, .string ⟨#[]⟩, .string ⟨#[]⟩, .slice none 0 0] ∧ Cel w2 (w.heap.size + 1) 3 #[.int .i64 0] ∧ Cel w2 (w.heap.size + 1 + 1) 33 #[.int .i64 0] from And.intro ((hb2.block w.heap.size (by have := HS1.out; omega)).trans (HC1.out.1.alloc _)) (And.intro ((hb2.block (w.heap.size + 1) (by have := HS1.out; omega)).trans (HC1.out.2.1.alloc _)) ((hb2.block (w.heap.size + 1 + 1) HS1.out).trans (HC1.out.2.2.alloc _)))); have HB2 := Lib.hid ((al HB1.out (.cells #[.slice A n c, .int .i64 0, .slice none 0 0, .bool false] tPs)).trans (hb2.mono (by have := HS1.out; omega))); clear hb2))
  refine leaves_cons (f := 21) (args := #[.pointer (some ⟨w.heap.size, 0, none⟩), .pointer (some ⟨w.heap.size + 1, 0, none⟩), .pointer (some ⟨w.heap.size + 1 + 1, 0, none⟩)]) (by simp) (by simp [go_sem]) ?_
  refine (catch_gave w.heap.size (w.heap.size + 1) (w.heap.size + 1 + 1) e (q : Int) [] w2 _ _ _ _ _ _ HC2.out.1 rfl HC2.out.2.1 HC2.out.2.2 ⟨by omega, by omega, by omega⟩).mono ?_
  rintro e' u' w3 ⟨rfl, rfl, k0, k1, k2, kb⟩
  exact take_leaves (V := (exZ, q, e)) _ w.heap.size (w.heap.size + 1) (w.heap.size + 1 + 1) rfl rfl rfl k0 k1 k2 (zC_in _ _) (HB2.out.trans (kb _ (Nat.le_refl _) (by omega) (by omega)))
set_option maxRecDepth 100000 in
set_option maxHeartbeats 2000000 in
theorem take_deep {w : World} {A : Option Addr} {n c N : Nat} {L : List To} (hb : Base w A L) (hn : n = L.length) (hm : n ≤ 1000) (hx : ∀ x ∈ L, x.text.length ≤ 1000000) (hok : toksOk L = true) {x : Ex} {q : Nat} (hR : rankP (Ts L) N 1 0 = .ok x q) (hh : high x = true) :
    Calls Tryz.prog 7 #[.slice A n c] w (TakeL w (exZ, 0, 17)) := by
  have hL := rts_of hok (by omega) hx
  have hl0 : 0 < L.length := (toksOk_iff.1 hok).1
  obtain ⟨W0, hW0⟩ : ∃ W0, ((w.alloc (.cells #[.int .i64 0, .int .i64 0, .int .i64 0, .int .i64 0, .string ⟨#[]⟩, .string ⟨#[]⟩, .slice none 0 0] tE)).alloc (.cells #[.int .i64 0] 3)).alloc (.cells #[.int .i64 0] 33) = W0 := ⟨_, rfl⟩
  have hbl : Below w.heap.size w W0 := hW0 ▸ al (al (al (Below.refl _ _) _) _) _
  have c0 : Cel W0 w.heap.size tE #[.int .i64 0, .int .i64 0, .int .i64 0, .int .i64 0, .string ⟨#[]⟩, .string ⟨#[]⟩, .slice none 0 0] := hW0 ▸ ((Cel.new w tE _ rfl).alloc _).alloc _
  have c1 : Cel W0 (w.heap.size + 1) 3 #[.int .i64 0] := hW0 ▸ (Cel.new (w.alloc _) _ _ (by simp)).alloc _
  have c2 : Cel W0 (w.heap.size + 1 + 1) 33 #[.int .i64 0] := hW0 ▸ Cel.new _ _ _ (by simp)
  have HA := Lib.hid (show Calls Tryz.prog 20 #[.slice A n c] W0 fun e w' => e = .returned (.bool true) ∧ Below W0.heap.size W0 w' from by
    have h2 : ToksIn W0 (fun b => b < W0.heap.size) A L := fun j x hxj => by
      obtain ⟨b, o, h1, h2, h3, h4, h5⟩ := hb.toks j x hxj
      exact ⟨b, o, h1, Nat.lt_of_lt_of_le h2 hbl.size, (hbl.cell (p := ⟨b, o + j * 3, none⟩) h2).trans h3, (hbl.cell (p := ⟨b, o + j * 3 + 1, none⟩) h2).trans h4, (hbl.cell (p := ⟨b, o + j * 3 + 2, none⟩) h2).trans h5⟩
    have := areTokens_any (c := c) h2 hn (by omega) hx (hb.signs.below hbl hb.signs.lt)
    rwa [hok] at this)
  have HC := Lib.hid (And.intro c0 (And.intro c1 c2))
  have HB := Lib.hid hbl
  have HANY := Lib.hid (show ∀ W1, Below w.heap.size w W1 → w.heap.size ≤ W1.heap.size → Calls Tryz.prog 22 #[.pointer (some ⟨W1.heap.size, 0, none⟩)] (W1.alloc (.cells #[.slice A n c, .int .i64 0, .slice none 0 0, .bool false] tPs)) (Leaves1 (W1.alloc (.cells #[.slice A n c, .int .i64 0, .slice none 0 0, .bool false] tPs)) W1.heap.size (.slice A n c) [] false (.ok x q)) from fun W1 h1 h2 =>
    ((all_read (B := W1.heap.size) (c := c) (A := A) hL hn N N (Nat.le_refl _)).any).got (ps_new (Cel.new W1 tPs _ rfl)) (hb.env (al h1 _) h2) hl0 (Nat.zero_le _) hR (fun q' e' => by cases e'))
  have hmf : ∀ (fn : Fn) (first cap : Array Value) (w : World), (Instr.makeFunc fn first cap).run Tryz.prog w = .ok (.func fn first cap) w := fun _ _ _ _ => rfl
  clear hb hx hok c0 c1 c2 hbl hL hl0 hR hn hm
  go_enter_defers Tryz.func7, Tryz.ntmps7
  go_wp2_with (first | (go_at_call 20; (refine HA.out.mono ?_); rintro e' w1 ⟨rfl, hb1⟩; have HB1 := Lib.hid (Mem.on HB.out hb1); have HC1 := Lib.hid (And.intro (HC.out.1.below hb1) (And.intro (HC.out.2.1.below hb1) (HC.out.2.2.below hb1))); have HS1 := Lib.hid (show w.heap.size + 1 + 1 < w1.heap.size from HC1.out.2.2.lt); clear hb1) | (go_at_call 22; (refine (HANY.out _ HB1.out (by have := HS1.out; omega)).mono ?_); rintro e' w2 ⟨hb2, he, hps⟩; subst he; obtain ⟨v, hz, -⟩ := hps; have d3 : w2.cell? ⟨w1.heap.size, 3, none⟩ = some (.bool true) := (Cel.at_ hz 3).trans (by rw [hh]; rfl); have HC2 := Lib.hid (show Cel w2 w.heap.size tE #[.int .i64 0, .int .i64 0, .int .i64 0, .int .i64 0, .string ⟨#[]⟩, .string ⟨#[]⟩, .slice none 0 0] ∧ Cel w2 (w.heap.size + 1) 3 #[.int .i64 0] ∧ Cel w2 (w.heap.size + 1 + 1) 33 #[.int .i64 0] from And.intro ((hb2.block w.heap.size (by have := HS1.out; omega)).trans (HC1.out.1.alloc _)) (And.intro ((hb2.block (w.heap.size + 1) (by have := HS1.out; omega)).trans (HC1.out.2.1.alloc _)) ((hb2.block (w.heap.size + 1 + 1) HS1.out).trans (HC1.out.2.2.alloc _)))); have HB2 := Lib.hid ((al HB1.out (.cells #[.slice A n c, .int .i64 0, .slice none 0 0, .bool false] tPs)).trans (hb2.mono (by have := HS1.out; omega))); have x0 := HC2.out.1.at_ 0; have x1 := HC2.out.1.at_ 1; have x2 := HC2.out.1.at_ 2; have x3 := HC2.out.1.at_ 3; have x4 := HC2.out.1.at_ 4; have x5 := HC2.out.1.at_ 5; have x6 := HC2.out.1.at_ 6; have y0 := HC2.out.2.1.at_ 0; have z0 := HC2.out.2.2.at_ 0; have f0 := fun i => HC2.out.1.open_ i; have f1 := HC2.out.2.1.open_ 0; have f2 := HC2.out.2.2.open_ 0; clear hb2 hz))
  have h0 := Nat.le_refl w.heap.size
  have h1 := Nat.le_succ w.heap.size
  have h2 := Nat.le_trans h1 (Nat.le_succ (w.heap.size + 1))
  have k0 := (((((((((HC2.out.1.set 0 (Value.int .i64 0)).set 1 (Value.int .i64 0)).set 2 (Value.int .i64 0)).set 3 (Value.int .i64 0)).set 4 (Value.string ⟨#[]⟩)).set 5 (Value.string ⟨#[]⟩)).set 6 (Value.slice none 0 0)).other (b := w.heap.size + 1) (by omega) 0 (Value.int .i64 0)).other (b := w.heap.size + 1 + 1) (by omega) 0 (Value.int .i64 17))
  have k1 := (((((((((HC2.out.2.1.other (b := w.heap.size) (by omega) 0 (Value.int .i64 0)).other (b := w.heap.size) (by omega) 1 (Value.int .i64 0)).other (b := w.heap.size) (by omega) 2 (Value.int .i64 0)).other (b := w.heap.size) (by omega) 3 (Value.int .i64 0)).other (b := w.heap.size) (by omega) 4 (Value.string ⟨#[]⟩)).other (b := w.heap.size) (by omega) 5 (Value.string ⟨#[]⟩)).other (b := w.heap.size) (by omega) 6 (Value.slice none 0 0)).set 0 (Value.int .i64 0)).other (b := w.heap.size + 1 + 1) (by omega) 0 (Value.int .i64 17))
  have k2 := (((((((((HC2.out.2.2.other (b := w.heap.size) (by omega) 0 (Value.int .i64 0)).other (b := w.heap.size) (by omega) 1 (Value.int .i64 0)).other (b := w.heap.size) (by omega) 2 (Value.int .i64 0)).other (b := w.heap.size) (by omega) 3 (Value.int .i64 0)).other (b := w.heap.size) (by omega) 4 (Value.string ⟨#[]⟩)).other (b := w.heap.size) (by omega) 5 (Value.string ⟨#[]⟩)).other (b := w.heap.size) (by omega) 6 (Value.slice none 0 0)).other (b := w.heap.size + 1) (by omega) 0 (Value.int .i64 0)).set 0 (Value.int .i64 17))
  simp only [List.setIfInBounds_toArray, List.set_cons_zero, List.set_cons_succ] at k0 k1 k2
  have kb := (Below.setCell (p := ⟨w.heap.size + 1 + 1, 0, none⟩) (Below.setCell (p := ⟨w.heap.size + 1, 0, none⟩) (Below.setCell (p := ⟨w.heap.size, 6, none⟩) (Below.setCell (p := ⟨w.heap.size, 5, none⟩) (Below.setCell (p := ⟨w.heap.size, 4, none⟩) (Below.setCell (p := ⟨w.heap.size, 3, none⟩) (Below.setCell (p := ⟨w.heap.size, 2, none⟩) (Below.setCell (p := ⟨w.heap.size, 1, none⟩) (Below.setCell (p := ⟨w.heap.size, 0, none⟩) HB2.out h0 (Value.int .i64 0)) h0 (Value.int .i64 0)) h0 (Value.int .i64 0)) h0 (Value.int .i64 0)) h0 (Value.string ⟨#[]⟩)) h0 (Value.string ⟨#[]⟩)) h0 (Value.slice none 0 0)) h1 (Value.int .i64 0)) h2 (Value.int .i64 17))
  refine leaves_cons (f := 21) (args := #[.pointer (some ⟨w.heap.size, 0, none⟩), .pointer (some ⟨w.heap.size + 1, 0, none⟩), .pointer (some ⟨w.heap.size + 1 + 1, 0, none⟩)]) (by simp) (by simp [go_sem]) ?_
  refine (catch_idle ⟨w.heap.size, 0, none⟩ ⟨w.heap.size + 1, 0, none⟩ ⟨w.heap.size + 1 + 1, 0, none⟩ _).mono ?_
  rintro e' u' w3 ⟨rfl, rfl, rfl⟩
  exact take_leaves (V := (exZ, 0, 17)) _ w.heap.size (w.heap.size + 1) (w.heap.size + 1 + 1) rfl rfl rfl (k0.alloc _) (k1.alloc _) (k2.alloc _) (zC_in _ _) (al kb _)
theorem drew_off {X Y : World} {b : Nat} (h : X.heap[b]? = Y.heap[b]?) : X.drew.heap[b]? = Y.heap[b]? := h
set_option maxRecDepth 100000 in
set_option maxHeartbeats 2000000 in
theorem take_ok {w : World} {A : Option Addr} {n c N : Nat} {L : List To} (hb : Base w A L) (hn : n = L.length) (hm : n ≤ 1000) (hx : ∀ x ∈ L, x.text.length ≤ 1000000) (hok : toksOk L = true) {x : Ex} {q : Nat} (hR : rankP (Ts L) N 1 0 = .ok x q) (hh : high x = false) :
    Calls Tryz.prog 7 #[.slice A n c] w (TakeL w (x, q, 0)) := by
  have hL := rts_of hok (by omega) hx
  have hl0 : 0 < L.length := (toksOk_iff.1 hok).1
  obtain ⟨W0, hW0⟩ : ∃ W0, ((w.alloc (.cells #[.int .i64 0, .int .i64 0, .int .i64 0, .int .i64 0, .string ⟨#[]⟩, .string ⟨#[]⟩, .slice none 0 0] tE)).alloc (.cells #[.int .i64 0] 3)).alloc (.cells #[.int .i64 0] 33) = W0 := ⟨_, rfl⟩
  have hbl : Below w.heap.size w W0 := hW0 ▸ al (al (al (Below.refl _ _) _) _) _
  have c0 : Cel W0 w.heap.size tE #[.int .i64 0, .int .i64 0, .int .i64 0, .int .i64 0, .string ⟨#[]⟩, .string ⟨#[]⟩, .slice none 0 0] := hW0 ▸ ((Cel.new w tE _ rfl).alloc _).alloc _
  have c1 : Cel W0 (w.heap.size + 1) 3 #[.int .i64 0] := hW0 ▸ (Cel.new (w.alloc _) _ _ (by simp)).alloc _
  have c2 : Cel W0 (w.heap.size + 1 + 1) 33 #[.int .i64 0] := hW0 ▸ Cel.new _ _ _ (by simp)
  have HA := Lib.hid (show Calls Tryz.prog 20 #[.slice A n c] W0 fun e w' => e = .returned (.bool true) ∧ Below W0.heap.size W0 w' from by
    have h2 : ToksIn W0 (fun b => b < W0.heap.size) A L := fun j x hxj => by
      obtain ⟨b, o, h1, h2, h3, h4, h5⟩ := hb.toks j x hxj
      exact ⟨b, o, h1, Nat.lt_of_lt_of_le h2 hbl.size, (hbl.cell (p := ⟨b, o + j * 3, none⟩) h2).trans h3, (hbl.cell (p := ⟨b, o + j * 3 + 1, none⟩) h2).trans h4, (hbl.cell (p := ⟨b, o + j * 3 + 2, none⟩) h2).trans h5⟩
    have := areTokens_any (c := c) h2 hn (by omega) hx (hb.signs.below hbl hb.signs.lt)
    rwa [hok] at this)
  have HC := Lib.hid (And.intro c0 (And.intro c1 c2))
  have HB := Lib.hid hbl
  have HANY := Lib.hid (show ∀ W1, Below w.heap.size w W1 → w.heap.size ≤ W1.heap.size → Calls Tryz.prog 22 #[.pointer (some ⟨W1.heap.size, 0, none⟩)] (W1.alloc (.cells #[.slice A n c, .int .i64 0, .slice none 0 0, .bool false] tPs)) (Leaves1 (W1.alloc (.cells #[.slice A n c, .int .i64 0, .slice none 0 0, .bool false] tPs)) W1.heap.size (.slice A n c) [] false (.ok x q)) from fun W1 h1 h2 =>
    ((all_read (B := W1.heap.size) (c := c) (A := A) hL hn N N (Nat.le_refl _)).any).got (ps_new (Cel.new W1 tPs _ rfl)) (hb.env (al h1 _) h2) hl0 (Nat.zero_le _) hR (fun q' e' => by cases e'))
  have hmf : ∀ (fn : Fn) (first cap : Array Value) (w : World), (Instr.makeFunc fn first cap).run Tryz.prog w = .ok (.func fn first cap) w := fun _ _ _ _ => rfl
  clear hb hx hok c0 c1 c2 hbl hL hl0 hR hn hm
  have HCUT := Lib.hid (cutE_is hh)
  go_enter_defers Tryz.func7, Tryz.ntmps7
  go_upto_region 8 with (first | (go_at_call 20; (refine HA.out.mono ?_); rintro e' w1 ⟨rfl, hb1⟩; have HB1 := Lib.hid (Mem.on HB.out hb1); have HC1 := Lib.hid (And.intro (HC.out.1.below hb1) (And.intro (HC.out.2.1.below hb1) (HC.out.2.2.below hb1))); have HS1 := Lib.hid (show w.heap.size + 1 + 1 < w1.heap.size from HC1.out.2.2.lt); clear hb1) | (go_at_call 22; (refine (HANY.out _ HB1.out (by have := HS1.out; omega)).mono ?_); rintro e' w2 ⟨hb2, he, hps⟩; subst he; obtain ⟨v, hz, hpl⟩ := hps; have d3 : w2.cell? ⟨w1.heap.size, 3, none⟩ = some (.bool false) := (Cel.at_ hz 3).trans (by rw [hh]; rfl); have HC2 := Lib.hid (show Cel w2 w.heap.size tE #[.int .i64 0, .int .i64 0, .int .i64 0, .int .i64 0, .string ⟨#[]⟩, .string ⟨#[]⟩, .slice none 0 0] ∧ Cel w2 (w.heap.size + 1) 3 #[.int .i64 0] ∧ Cel w2 (w.heap.size + 1 + 1) 33 #[.int .i64 0] from And.intro ((hb2.block w.heap.size (by have := HS1.out; omega)).trans (HC1.out.1.alloc _)) (And.intro ((hb2.block (w.heap.size + 1) (by have := HS1.out; omega)).trans (HC1.out.2.1.alloc _)) ((hb2.block (w.heap.size + 1 + 1) HS1.out).trans (HC1.out.2.2.alloc _)))); have HB2 := Lib.hid ((al HB1.out (.cells #[.slice A n c, .int .i64 0, .slice none 0 0, .bool false] tPs)).trans (hb2.mono (by have := HS1.out; omega))); have HZ := Lib.hid hz; have HPL := Lib.hid hpl; clear hb2 hz hpl))
  obtain ⟨S, hown, hS⟩ := HPL.out
  rw [List.nil_append, HCUT.out] at hown
  obtain ⟨A', c', rfl, -⟩ := hown.form
  obtain ⟨g, rfl, hg1, hg2, -⟩ := hown.block (by simp)
  have hkids := hown.kids
  obtain ⟨k, o, vk, vn, vs, nm, ks, A1, n1, c1, b1, p1, rfl, hbp, -, -, e0, e1, e2, e3, e4, e5, e6, hin⟩ := kid_at (j := 0) hkids rfl
  injection hbp with hbp
  injection hbp with hb1 hp1
  subst hb1 hp1
  simp only [Nat.zero_mul, Nat.zero_add] at e0 e1 e2 e3 e4 e5 e6
  have hS1 := HS1.out
  have HFAR := Lib.hid (show ∀ b, (S b ∨ (Value.slice (some ⟨g, 0, none⟩) [Ex.mk k o vk vn vs nm ks].length c').ownBlock = some b) → w.heap.size + 1 + 1 < b ∧ b < w2.heap.size from fun b hb => by
    rcases hb with hb | hb
    · have := hS b hb; omega
    · have h7 : g = b := Option.some.inj hb
      omega)
  have HIN := Lib.hid hin
  have q1 : w2.cell? ⟨w1.heap.size, 1, none⟩ = some (.int .i64 (q : Int)) := Cel.at_ HZ.out 1
  have q2 : w2.cell? ⟨w1.heap.size, 2, none⟩ = some (.slice (some ⟨g, 0, none⟩) 1 c') := Cel.at_ HZ.out 2
  have x0 := HC2.out.1.at_ 0
  have x1 := HC2.out.1.at_ 1
  have x2 := HC2.out.1.at_ 2
  have x3 := HC2.out.1.at_ 3
  have x4 := HC2.out.1.at_ 4
  have x5 := HC2.out.1.at_ 5
  have x6 := HC2.out.1.at_ 6
  have y0 := HC2.out.2.1.at_ 0
  have z0 := HC2.out.2.2.at_ 0
  have f0 := fun i => HC2.out.1.open_ i
  have f1 := HC2.out.2.1.open_ 0
  have f2 := HC2.out.2.2.open_ 0
  have m1 : ¬ g = w.heap.size := by omega
  have m2 : ¬ g = w.heap.size + 1 := by omega
  have m3 : ¬ g = w.heap.size + 1 + 1 := by omega
  have m4 : ¬ w1.heap.size = w.heap.size := by omega
  have m5 : ¬ w1.heap.size = w.heap.size + 1 := by omega
  have m6 : ¬ w1.heap.size = w.heap.size + 1 + 1 := by omega
  have m7 : ¬ w.heap.size = g := by omega
  have m8 : ¬ w.heap.size + 1 = g := by omega
  have m9 : ¬ w.heap.size + 1 + 1 = g := by omega
  have m10 : ¬ w.heap.size = w1.heap.size := by omega
  have m11 : ¬ w.heap.size + 1 = w1.heap.size := by omega
  have m12 : ¬ w.heap.size + 1 + 1 = w1.heap.size := by omega
  clear hown hkids hin hS hS1 hh
  go_region
  go_wp2
  have h0 := Nat.le_refl w.heap.size
  have h1 := Nat.le_succ w.heap.size
  have h2 := Nat.le_trans h1 (Nat.le_succ (w.heap.size + 1))
  have k0 := (((((((((HC2.out.1.set 0 (Value.int .i64 k)).set 1 (Value.int .i64 o)).set 2 (Value.int .i64 vk)).set 3 (Value.int .i64 vn)).set 4 (Value.string (Ep.txt vs))).set 5 (Value.string (Ep.txt nm))).set 6 (Value.slice A1 n1 c1)).other (b := w.heap.size + 1) (by omega) 0 (Value.int .i64 (q : Int))).other (b := w.heap.size + 1 + 1) (by omega) 0 (Value.int .i64 0))
  have k1 := (((((((((HC2.out.2.1.other (b := w.heap.size) (by omega) 0 (Value.int .i64 k)).other (b := w.heap.size) (by omega) 1 (Value.int .i64 o)).other (b := w.heap.size) (by omega) 2 (Value.int .i64 vk)).other (b := w.heap.size) (by omega) 3 (Value.int .i64 vn)).other (b := w.heap.size) (by omega) 4 (Value.string (Ep.txt vs))).other (b := w.heap.size) (by omega) 5 (Value.string (Ep.txt nm))).other (b := w.heap.size) (by omega) 6 (Value.slice A1 n1 c1)).set 0 (Value.int .i64 (q : Int))).other (b := w.heap.size + 1 + 1) (by omega) 0 (Value.int .i64 0))
  have k2 := (((((((((HC2.out.2.2.other (b := w.heap.size) (by omega) 0 (Value.int .i64 k)).other (b := w.heap.size) (by omega) 1 (Value.int .i64 o)).other (b := w.heap.size) (by omega) 2 (Value.int .i64 vk)).other (b := w.heap.size) (by omega) 3 (Value.int .i64 vn)).other (b := w.heap.size) (by omega) 4 (Value.string (Ep.txt vs))).other (b := w.heap.size) (by omega) 5 (Value.string (Ep.txt nm))).other (b := w.heap.size) (by omega) 6 (Value.slice A1 n1 c1)).other (b := w.heap.size + 1) (by omega) 0 (Value.int .i64 (q : Int))).set 0 (Value.int .i64 0))
  simp only [List.setIfInBounds_toArray, List.set_cons_zero, List.set_cons_succ] at k0 k1 k2
  have kb := (Below.setCell (p := ⟨w.heap.size + 1 + 1, 0, none⟩) (Below.setCell (p := ⟨w.heap.size + 1, 0, none⟩) (Below.setCell (p := ⟨w.heap.size, 6, none⟩) (Below.setCell (p := ⟨w.heap.size, 5, none⟩) (Below.setCell (p := ⟨w.heap.size, 4, none⟩) (Below.setCell (p := ⟨w.heap.size, 3, none⟩) (Below.setCell (p := ⟨w.heap.size, 2, none⟩) (Below.setCell (p := ⟨w.heap.size, 1, none⟩) (Below.setCell (p := ⟨w.heap.size, 0, none⟩) HB2.out h0 (Value.int .i64 k)) h0 (Value.int .i64 o)) h0 (Value.int .i64 vk)) h0 (Value.int .i64 vn)) h0 (Value.string (Ep.txt vs))) h0 (Value.string (Ep.txt nm))) h0 (Value.slice A1 n1 c1)) h1 (Value.int .i64 (q : Int))) h2 (Value.int .i64 0))
  have K := Lib.hid (And.intro (Cel.drew' k0) (And.intro (Cel.drew' k1) (And.intro (Cel.drew' k2) (And.intro (Below.drew kb) (fun (b : Nat) (hb : w.heap.size + 1 + 1 < b) => drew_off ((Below.heap_setCell _ ⟨w.heap.size + 1 + 1, 0, none⟩ (Value.int .i64 0) b (by show b ≠ w.heap.size + 1 + 1; omega)).trans ((Below.heap_setCell _ ⟨w.heap.size + 1, 0, none⟩ (Value.int .i64 (q : Int)) b (by show b ≠ w.heap.size + 1; omega)).trans ((Below.heap_setCell _ ⟨w.heap.size, 6, none⟩ (Value.slice A1 n1 c1) b (by show b ≠ w.heap.size; omega)).trans ((Below.heap_setCell _ ⟨w.heap.size, 5, none⟩ (Value.string (Ep.txt nm)) b (by show b ≠ w.heap.size; omega)).trans ((Below.heap_setCell _ ⟨w.heap.size, 4, none⟩ (Value.string (Ep.txt vs)) b (by show b ≠ w.heap.size; omega)).trans ((Below.heap_setCell _ ⟨w.heap.size, 3, none⟩ (Value.int .i64 vn) b (by show b ≠ w.heap.size; omega)).trans ((Below.heap_setCell _ ⟨w.heap.size, 2, none⟩ (Value.int .i64 vk) b (by show b ≠ w.heap.size; omega)).trans ((Below.heap_setCell _ ⟨w.heap.size, 1, none⟩ (Value.int .i64 o) b (by show b ≠ w.heap.size; omega)).trans ((Below.heap_setCell _ ⟨w.heap.size, 0, none⟩ (Value.int .i64 k) b (by show b ≠ w.heap.size; omega)).trans (rfl : w2.heap[b]? = w2.heap[b]?)))))))))))))))
  refine leaves_cons (f := 21) (args := #[.pointer (some ⟨w.heap.size, 0, none⟩), .pointer (some ⟨w.heap.size + 1, 0, none⟩), .pointer (some ⟨w.heap.size + 1 + 1, 0, none⟩)]) (by simp) (by simp [go_sem]) ?_
  refine (catch_idle ⟨w.heap.size, 0, none⟩ ⟨w.heap.size + 1, 0, none⟩ ⟨w.heap.size + 1 + 1, 0, none⟩ _).mono ?_
  rintro e' u' w3 ⟨rfl, rfl, rfl⟩
  have hf := HFAR.out
  refine take_leaves (V := (Ex.mk k o vk vn vs nm ks, q, 0)) _ w.heap.size (w.heap.size + 1) (w.heap.size + 1 + 1) rfl rfl rfl (K.out.1.alloc _) (K.out.2.1.alloc _) (K.out.2.2.1.alloc _) ?_ (al K.out.2.2.2.1 _)
  refine ExIn.to (fun b hb => ?_) (fun p hp => ?_) _ _ HIN.out
  · have h3 := hf b hb
    refine ⟨by omega, ?_⟩
    simp
    omega
  · have h3 := hf _ hp
    refine World.cell?_of_block ?_
    rw [heap_alloc_old _ _ (by simp; omega)]
    exact K.out.2.2.2.2 _ h3.1
end Go.Proofs.YtlkmhdbmcfblkaaGreatDoor.Ep
