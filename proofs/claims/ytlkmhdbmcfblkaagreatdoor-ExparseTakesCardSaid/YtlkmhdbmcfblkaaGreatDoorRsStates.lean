import Derived.Test.YtlkmhdbmcfblkaaGreatDoorExPars
/- The document's parser in memory (registrarref11.State): its tokens, its place, its first error; its smallest calls. -/
namespace Go.Proofs.YtlkmhdbmcfblkaaGreatDoor.Ep
open Go.RowKit Go.Proofs.YtlkmhdbmcfblkaaGreatDoor.Mem Go.Proofs.YtlkmhdbmcfblkaaGreatDoor.Right Go.Proofs.YtlkmhdbmcfblkaaGreatDoor.Lx
set_option linter.unusedVariables false

abbrev tSt : TypeId := 64
/-- Its three cells. -/
def Rz (w : World) (B : Nat) (tk : Value) (p : Nat) (e : Int) : Prop := Cel w B tSt #[tk, .int .i64 (p : Int), .int .i64 e]
section
variable {w w' : World} {B p q : Nat} {tk : Value} {e : Int}
theorem Rz.lt (h : Rz w B tk p e) : B < w.heap.size := Cel.lt h
theorem Rz.below (h : Rz w B tk p e) (hb : Below w.heap.size w w') : Rz w' B tk p e := Cel.below h hb
end
section
variable {w : World} {B p n c : Nat} {e : Int} {A : Option Addr} {L : List To} {x : To}
/-- What the walk wants of the token that comes next. -/
theorem Rz.tok (h : Rz w B (.slice A n c) p e) (ht : ToksIn w (fun b => b < B) A L) (hx : L[p]? = some x) (hn : n = L.length) :
    ∃ b o, A = some ⟨b, o, none⟩ ∧ p < n ∧ w.cell? ⟨b, o + p * 3, none⟩ = some (.int .i64 x.kind) ∧ w.cell? ⟨b, o + p * 3 + 1, none⟩ = some (.string (Ep.txt x.text)) ∧ w.cell? ⟨b, o + p * 3 + 2, none⟩ = some (.int .i64 x.at_) := by
  obtain ⟨b, o, rfl, hb, hp, c0, c1, c2⟩ := tok_at ht hx
  exact ⟨b, o, rfl, by omega, c0, c1, c2⟩
set_option maxRecDepth 100000 in
set_option maxHeartbeats 1000000 in
theorem have_yes (h : Rz w B (.slice A n c) p 0) (ht : ToksIn w (fun b => b < B) A L) (hx : L[p]? = some x) (hn : n = L.length) (hL : L.length ≤ 1000) (hk : x.kind = 2 ∨ x.kind = 6) :
    Calls Tryz.prog 40 #[pV B, .string (Ep.txt x.text)] w fun r w' => r = .returned (.bool true) ∧ Rz w' B (.slice A n c) (p + 1) 0 ∧ Oth B w w' := by
  obtain ⟨b, o, rfl, hp, c0, c1, c2⟩ := h.tok ht hx hn
  have hB := h.lt
  have q0 := h.at_ 0
  have q1 := h.at_ 1
  have hp1 : p ≤ 1000 := by omega
  obtain ⟨k, l, a⟩ := x
  obtain ⟨W, hW⟩ : ∃ W, (w.alloc (.cells #[.int .i64 k, .string (Ep.txt l), .int .i64 a] 27)).drew = W := ⟨_, rfl⟩
  have hb1 : Below w.heap.size w W := hW ▸ (al (Below.refl _ _) _).drew
  have c0 := past c0 (.cells #[.int .i64 0, .string ⟨#[]⟩, .int .i64 0] 27)
  have c1 := past c1 (.cells #[.int .i64 0, .string ⟨#[]⟩, .int .i64 0] 27)
  have c2 := past c2 (.cells #[.int .i64 0, .string ⟨#[]⟩, .int .i64 0] 27)
  have HO := Lib.hid (Oth.of hb1 (Nat.le_of_lt hB))
  have HZ := Lib.hid (h.below hb1)
  have hc : Cel W w.heap.size 27 #[.int .i64 k, .string (Ep.txt l), .int .i64 a] := hW ▸ Cel.new w _ _ rfl
  have r1 := (h.below hb1).at_ 1
  have r2 := (h.below hb1).at_ 2
  have f1 := (h.below hb1).open_ 1
  have d0 := hc.at_ 0
  have d1 := hc.at_ 1
  clear h ht hx hn hb1 hc
  rcases hk with rfl | rfl
  all_goals
    go_enter Tryz.func40, Tryz.ntmps40
    go_wp2
    go_region
    go_wp2
    go_ret
    exact ⟨rfl, Cel.set HZ.out 1 (.int .i64 ((p : Int) + 1)), HO.out.set _ _⟩
set_option maxRecDepth 100000 in
set_option maxHeartbeats 1000000 in
theorem have_no (h : Rz w B (.slice A n c) p e) (ht : ToksIn w (fun b => b < B) A L) (hx : L[p]? = some x) (hn : n = L.length) (s : ByteArray) (hs : e ≠ 0 ∨ (x.kind ≠ 2 ∧ x.kind ≠ 6) ∨ ((Ep.txt x.text).toList == s.toList) = false) :
    Calls Tryz.prog 40 #[pV B, .string s] w fun r w' => r = .returned (.bool false) ∧ Rz w' B (.slice A n c) p e ∧ Oth B w w' := by
  obtain ⟨b, o, rfl, hp, c0, c1, c2⟩ := h.tok ht hx hn
  have hB := h.lt
  have q0 := h.at_ 0
  have q1 := h.at_ 1
  obtain ⟨k, l, a⟩ := x
  obtain ⟨W, hW⟩ : ∃ W, (w.alloc (.cells #[.int .i64 k, .string (Ep.txt l), .int .i64 a] 27)).drew = W := ⟨_, rfl⟩
  have hb1 : Below w.heap.size w W := hW ▸ (al (Below.refl _ _) _).drew
  have c0 := past c0 (.cells #[.int .i64 0, .string ⟨#[]⟩, .int .i64 0] 27)
  have c1 := past c1 (.cells #[.int .i64 0, .string ⟨#[]⟩, .int .i64 0] 27)
  have c2 := past c2 (.cells #[.int .i64 0, .string ⟨#[]⟩, .int .i64 0] 27)
  have HO := Lib.hid (Oth.of hb1 (Nat.le_of_lt hB))
  have HZ := Lib.hid (h.below hb1)
  have hc : Cel W w.heap.size 27 #[.int .i64 k, .string (Ep.txt l), .int .i64 a] := hW ▸ Cel.new w _ _ rfl
  have r2 := (h.below hb1).at_ 2
  have d0 := hc.at_ 0
  have d1 := hc.at_ 1
  clear h ht hx hn hb1 hc
  by_cases he : e = 0
  case neg =>
    have t0 : (e != 0) = true := bne_yes he
    clear hs he
    go_enter Tryz.func40, Tryz.ntmps40
    go_wp2
    go_region
    go_wp2
    go_ret
    exact ⟨rfl, HZ.out, HO.out⟩
  subst he
  have hs : (k ≠ 2 ∧ k ≠ 6) ∨ ((Ep.txt l).toList == s.toList) = false := hs.resolve_left (fun h => h rfl)
  by_cases h2 : k = 2
  · subst h2
    have hs : ((Ep.txt l).toList == s.toList) = false := hs.resolve_left (fun h => h.1 rfl)
    go_enter Tryz.func40, Tryz.ntmps40
    go_wp2
    go_region
    go_wp2
    go_ret
    exact ⟨rfl, HZ.out, HO.out⟩
  by_cases h6 : k = 6
  · subst h6
    have hs : ((Ep.txt l).toList == s.toList) = false := hs.resolve_left (fun h => h.2 rfl)
    go_enter Tryz.func40, Tryz.ntmps40
    go_wp2
    go_region
    go_wp2
    go_ret
    exact ⟨rfl, HZ.out, HO.out⟩
  have t0 : (k != 2) = true := bne_yes h2
  have t1 : (k != 6) = true := bne_yes h6
  clear hs h2 h6
  go_enter Tryz.func40, Tryz.ntmps40
  go_wp2
  go_region
  go_wp2
  go_ret
  exact ⟨rfl, HZ.out, HO.out⟩
theorem mustR_yes (h : Rz w B (.slice A n c) p 0) (ht : ToksIn w (fun b => b < B) A L) (hx : L[p]? = some x) (hn : n = L.length) (hL : L.length ≤ 1000) (hk : x.kind = 2 ∨ x.kind = 6) :
    Calls Tryz.prog 61 #[pV B, .string (Ep.txt x.text)] w fun r w' => r = .returned (.tuple #[]) ∧ Rz w' B (.slice A n c) (p + 1) 0 ∧ Oth B w w' := by
  have HS := Lib.hid (have_yes h ht hx hn hL hk)
  clear h ht hx hn hL hk
  go_enter Tryz.func61, Tryz.ntmps61
  go_wp2_with (go_at_call 40; (refine HS.out.mono ?_); rintro e' w1 ⟨rfl, h1, h2⟩; have H1 := Lib.hid (And.intro h1 h2); clear h1 h2)
  go_end0
  exact ⟨rfl, H1.out⟩
theorem mustR_no (h : Rz w B (.slice A n c) p e) (ht : ToksIn w (fun b => b < B) A L) (hx : L[p]? = some x) (hn : n = L.length) (s : ByteArray) (hs : e ≠ 0 ∨ (x.kind ≠ 2 ∧ x.kind ≠ 6) ∨ ((Ep.txt x.text).toList == s.toList) = false) :
    Calls Tryz.prog 61 #[pV B, .string s] w fun r w' => r = .returned (.tuple #[]) ∧ Rz w' B (.slice A n c) p (if e = 0 then 16 else e) ∧ Oth B w w' := by
  have HS := Lib.hid (have_no h ht hx hn s hs)
  have hB := h.lt
  clear h ht hx hn hs
  by_cases he : e = 0
  · subst he
    rw [if_pos rfl]
    go_enter Tryz.func61, Tryz.ntmps61
    go_wp2_with (go_at_call 40; (refine HS.out.mono ?_); rintro e' w1 ⟨rfl, h1, h2⟩; have H1 := Lib.hid (And.intro h1 h2); have r2 := h1.at_ 2; have f2 := h1.open_ 2; clear h1 h2)
    go_end0
    exact ⟨rfl, Cel.set H1.out.1 2 (.int .i64 16), H1.out.2.set _ _⟩
  · rw [if_neg he]
    have t0 : (e == 0) = false := beq_no he
    go_enter Tryz.func61, Tryz.ntmps61
    go_wp2_with (go_at_call 40; (refine HS.out.mono ?_); rintro e' w1 ⟨rfl, h1, h2⟩; have H1 := Lib.hid (And.intro h1 h2); have r2 := h1.at_ 2; clear h1 h2)
    go_end0
    exact ⟨rfl, H1.out⟩
/-! ### Which sign between two comes next -/
theorem rank10_any (o : Int) (w : World) : Calls Tryz.prog 64 #[exV 5 o 0 0 ⟨#[]⟩ ⟨#[]⟩ none 0 0] w fun r w' => r = .returned (.int .i64 (rk 5 o : Int)) ∧ Below w.heap.size w w' := by
  by_cases h : o = 1 ∨ o = 2 ∨ o = 9 ∨ o = 10 ∨ o = 14 ∨ o = 11 ∨ o = 12 ∨ o = 13
  · rcases h with rfl | rfl | rfl | rfl | rfl | rfl | rfl | rfl
    all_goals
      go_enter Tryz.func64, Tryz.ntmps64
      go_wp2
      go_ret
      exact ⟨rfl, al (Below.refl _ _) _⟩
  have t1 : (o == 1) = false := beq_no (by omega)
  have t2 : (o == 2) = false := beq_no (by omega)
  have t3 : (o == 9) = false := beq_no (by omega)
  have t4 : (o == 10) = false := beq_no (by omega)
  have t5 : (o == 14) = false := beq_no (by omega)
  have t6 : (o == 11) = false := beq_no (by omega)
  have t7 : (o == 12) = false := beq_no (by omega)
  have t8 : (o == 13) = false := beq_no (by omega)
  have H := Lib.hid (show (4 : Int) = (rk 5 o : Int) by
    unfold rk
    rw [if_neg (by decide), if_neg (by decide), if_neg (by decide), if_neg (by omega), if_neg (by omega), if_neg (by omega), if_neg (by omega)]
    rfl)
  clear h
  go_enter Tryz.func64, Tryz.ntmps64
  go_wp2
  go_ret
  exact ⟨ri H.out, al (Below.refl _ _) _⟩
theorem ops14 {o : Int} (h : 1 ≤ o) (h' : o ≤ 14) : o = 1 ∨ o = 2 ∨ o = 3 ∨ o = 4 ∨ o = 5 ∨ o = 6 ∨ o = 7 ∨ o = 8 ∨ o = 9 ∨ o = 10 ∨ o = 11 ∨ o = 12 ∨ o = 13 ∨ o = 14 := by omega
theorem sign10_any (o : Int) (h : 1 ≤ o) (h' : o ≤ 14) (w : World) : Calls Tryz.prog 65 #[.int .i64 o] w fun r w' => r = .returned (.string (Ep.txt (sg o))) ∧ w = w' := by
  rcases ops14 h h' with rfl | rfl | rfl | rfl | rfl | rfl | rfl | rfl | rfl | rfl | rfl | rfl | rfl | rfl
  all_goals
    clear h h'
    go_enter Tryz.func65, Tryz.ntmps65
    go_wp2
    go_ret
    exact ⟨rfl, rfl⟩
/-- A sign's text tells its number. -/
theorem op_is (t : Tt) {o : Int} (h : 1 ≤ o) (h' : o ≤ 14) : ((t.1 == 2 || t.1 == 6) && t.2 == sg o) = decide (opT t = o) := by
  obtain ⟨k, l⟩ := t
  by_cases hk : k ≠ 2 ∧ k ≠ 6
  · have e0 : opT (k, l) = 0 := by unfold opT; rw [if_pos hk]
    rw [e0, decide_eq_false (by omega)]
    simp [hk.1, hk.2]
  have hk2 : (k == 2 || k == 6) = true := by
    by_cases h2 : k = 2
    · simp [h2]
    · have : k = 6 := Classical.byContradiction fun h6 => hk ⟨h2, h6⟩
      simp [this]
  show ((k == 2 || k == 6) && l == sg o) = _
  rw [hk2, Bool.true_and]
  have e1 : opT (k, l) = opT (2, l) := by unfold opT; simp only [hk, if_false]; rfl
  rw [e1]
  clear e1 hk2 hk
  by_cases hl : l ∈ [kOR, kAND, [61], [60, 62], [60], [60, 61], [62], [62, 61], [43], [45], [42], [47], [37], [124, 124]]
  · simp only [List.mem_cons, List.not_mem_nil, or_false] at hl
    rcases hl with rfl | rfl | rfl | rfl | rfl | rfl | rfl | rfl | rfl | rfl | rfl | rfl | rfl | rfl
    all_goals
      rcases ops14 h h' with rfl | rfl | rfl | rfl | rfl | rfl | rfl | rfl | rfl | rfl | rfl | rfl | rfl | rfl
      all_goals decide
  · have hn : ∀ r ∈ [kOR, kAND, [61], [60, 62], [60], [60, 61], [62], [62, 61], [43], [45], [42], [47], [37], [124, 124]], ¬ l = r := fun r hr e => hl (e ▸ hr)
    have e0 : opT (2, l) = 0 := by
      unfold opT
      simp only [hn kOR (by decide), hn kAND (by decide), hn [61] (by decide), hn [60, 62] (by decide), hn [60] (by decide), hn [60, 61] (by decide), hn [62] (by decide), hn [62, 61] (by decide), hn [43] (by decide), hn [45] (by decide), hn [42] (by decide), hn [47] (by decide), hn [37] (by decide), hn [124, 124] (by decide), if_false]
      rfl
    rw [e0, decide_eq_false (by omega), beq_eq_false_iff_ne]
    refine hn _ ?_
    rcases ops14 h h' with rfl | rfl | rfl | rfl | rfl | rfl | rfl | rfl | rfl | rfl | rfl | rfl | rfl | rfl
    all_goals decide
theorem ite_b {c : Prop} [Decidable c] {a b : Int} (ha : 0 ≤ a ∧ a ≤ 14) (hb : 0 ≤ b ∧ b ≤ 14) : 0 ≤ (if c then a else b) ∧ (if c then a else b) ≤ 14 := by
  split <;> assumption
theorem opT_le (t : Tt) : 0 ≤ opT t ∧ opT t ≤ 14 := by
  unfold opT
  iterate 15 refine ite_b (by decide) ?_
  decide
end
end Go.Proofs.YtlkmhdbmcfblkaaGreatDoor.Ep
/- The document's parser by the document's words: what its smallest calls leave; the sign that comes next. -/
namespace Go.Proofs.YtlkmhdbmcfblkaaGreatDoor.Ep
open Go.RowKit Go.Proofs.YtlkmhdbmcfblkaaGreatDoor.Mem Go.Proofs.YtlkmhdbmcfblkaaGreatDoor.Right Go.Proofs.YtlkmhdbmcfblkaaGreatDoor.Lx
set_option linter.unusedVariables false

section
variable {w : World} {B p n c : Nat} {e : Int} {A : Option Addr} {L : List To}
theorem isT_off {L : List To} (h : Rts L) {p : Nat} {x : To} (hx : L[p]? = some x) {k : List UInt8} (ht : isT (Ts L) p k = false) : (x.kind ≠ 2 ∧ x.kind ≠ 6) ∨ ((Ep.txt x.text).toList == (⟨k.toArray⟩ : ByteArray).toList) = false := by
  unfold isT at ht
  rw [tk_at hx] at ht
  obtain ⟨_, _, hkind⟩ := right_kind (h.at_ hx).1
  by_cases hk : x.kind = 2 ∨ x.kind = 6
  · right
    have e1 : ((toTt x).1 == 2 || (toTt x).1 == 6) = true := by
      show ((x.kind.toNat == 2) || (x.kind.toNat == 6)) = true
      rcases hk with hk | hk <;> rw [hk] <;> rfl
    rw [e1, Bool.true_and] at ht
    rcases text_or x.text ⟨k.toArray⟩ with e | ⟨_, e⟩
    · have : x.text = k := (congrArg (fun s : ByteArray => s.data.toList) e).symm
      rw [show (toTt x).2 = x.text from rfl, this] at ht
      simp at ht
    · exact e
  · left
    omega
theorem isT_on {L : List To} (h : Rts L) {p : Nat} {x : To} (hx : L[p]? = some x) {k : List UInt8} (ht : isT (Ts L) p k = true) : (x.kind = 2 ∨ x.kind = 6) ∧ x.text = k := by
  unfold isT at ht
  rw [tk_at hx] at ht
  obtain ⟨_, _, hkind⟩ := right_kind (h.at_ hx).1
  simp only [Bool.and_eq_true, Bool.or_eq_true, beq_iff_eq] at ht
  refine ⟨?_, ht.2⟩
  have h0 : x.kind = ((toTt x).1 : Int) := by show x.kind = (x.kind.toNat : Int); omega
  rcases ht.1 with h1 | h1 <;> rw [h1] at h0 <;> omega
section
variable (h : Rz w B (.slice A n c) p e) (hE : ToksIn w (fun b => b < B) A L) (hL : Rts L) (hn : n = L.length) (hp : p < L.length)
include h hE hL hn hp
theorem have_is (he : e = 0) {k : List UInt8} (ht : isT (Ts L) p k = true) :
    Calls Tryz.prog 40 #[pV B, .string ⟨k.toArray⟩] w fun r w' => r = .returned (.bool true) ∧ Rz w' B (.slice A n c) (p + 1) 0 ∧ Oth B w w' := by
  obtain ⟨x, hx⟩ := to_some hp
  obtain ⟨h1, h2⟩ := isT_on hL hx ht
  subst he h2
  exact have_yes h hE hx hn hL.1 h1
theorem have_not {k : List UInt8} (ht : e ≠ 0 ∨ isT (Ts L) p k = false) :
    Calls Tryz.prog 40 #[pV B, .string ⟨k.toArray⟩] w fun r w' => r = .returned (.bool false) ∧ Rz w' B (.slice A n c) p e ∧ Oth B w w' := by
  obtain ⟨x, hx⟩ := to_some hp
  exact have_no h hE hx hn ⟨k.toArray⟩ (ht.imp id fun ht => isT_off hL hx ht)
theorem mustR_is (he : e = 0) {k : List UInt8} (ht : isT (Ts L) p k = true) :
    Calls Tryz.prog 61 #[pV B, .string ⟨k.toArray⟩] w fun r w' => r = .returned (.tuple #[]) ∧ Rz w' B (.slice A n c) (p + 1) 0 ∧ Oth B w w' := by
  obtain ⟨x, hx⟩ := to_some hp
  obtain ⟨h1, h2⟩ := isT_on hL hx ht
  subst he h2
  exact mustR_yes h hE hx hn hL.1 h1
theorem mustR_not {k : List UInt8} (ht : e ≠ 0 ∨ isT (Ts L) p k = false) :
    Calls Tryz.prog 61 #[pV B, .string ⟨k.toArray⟩] w fun r w' => r = .returned (.tuple #[]) ∧ Rz w' B (.slice A n c) p (if e = 0 then 16 else e) ∧ Oth B w w' := by
  obtain ⟨x, hx⟩ := to_some hp
  exact mustR_no h hE hx hn ⟨k.toArray⟩ (ht.imp id fun ht => isT_off hL hx ht)
end
theorem ToksIn.oth {w w' : World} {B : Nat} {A : Option Addr} {L : List To} (h : ToksIn w (fun b => b < B) A L) (ho : Oth B w w') : ToksIn w' (fun b => b < B) A L := fun j x hx => by
  obtain ⟨b, o, h1, h2, h3, h4, h5⟩ := h j x hx
  exact ⟨b, o, h1, h2, (ho.1.cell (p := ⟨b, o + j * 3, none⟩) h2).trans h3, (ho.1.cell (p := ⟨b, o + j * 3 + 1, none⟩) h2).trans h4, (ho.1.cell (p := ⟨b, o + j * 3 + 2, none⟩) h2).trans h5⟩
theorem isT_sg {L : List Tt} {p : Nat} {o : Int} (h : 1 ≤ o) (h' : o ≤ 14) : isT L p (sg o) = decide (opT (tk L p) = o) := op_is (tk L p) h h'
theorem sg_hit {L : List Tt} {r p : Nat} {o : Int} (h : 1 ≤ o) (h' : o ≤ 14) (hr : rk 5 o = r) (ht : isT L p (sg o) = true) : sgAt L r p = o := by
  rw [isT_sg h h'] at ht
  have := of_decide_eq_true ht
  unfold sgAt
  rw [this, if_pos hr]
theorem sg_miss {L : List Tt} {r p : Nat} (h : ∀ o : Int, 1 ≤ o → o ≤ 14 → rk 5 o = r → isT L p (sg o) = false) : sgAt L r p = 0 := by
  unfold sgAt
  split
  · rename_i hr
    obtain ⟨h1, h2⟩ := opT_le (tk L p)
    by_cases h0 : opT (tk L p) = 0
    · exact h0
    · have := h _ (by omega) h2 hr
      rw [isT_sg (by omega) h2] at this
      simp at this
  · rfl
/-- What is left of the signs at place j. -/
def sgFrom (L : List Tt) (r p j : Nat) : Prop := ∀ o : Int, 1 ≤ o → o < (j : Int) → rk 5 o = r → isT L p (sg o) = false
set_option maxRecDepth 100000 in
set_option maxHeartbeats 2000000 in
theorem signR_any (h : Rz w B (.slice A n c) p e) (hE : ToksIn w (fun b => b < B) A L) (hL : Rts L) (hn : n = L.length) (hp : p < L.length) (r : Nat) :
    Calls Tryz.prog 43 #[pV B, .int .i64 (r : Int)] w fun x w' => x = .returned (.int .i64 (if e = 0 then sgAt (Ts L) r p else 0)) ∧ Rz w' B (.slice A n c) (if e = 0 ∧ sgAt (Ts L) r p ≠ 0 then p + 1 else p) e ∧ Oth B w w' := by
  obtain ⟨op, hop⟩ : ∃ op, (if e = 0 then sgAt (Ts L) r p else 0) = op := ⟨_, rfl⟩
  obtain ⟨q, hq⟩ : ∃ q, (if e = 0 ∧ sgAt (Ts L) r p ≠ 0 then p + 1 else p) = q := ⟨_, rfl⟩
  rw [hop, hq]
  have HE := Lib.hid hE
  have HL := Lib.hid (And.intro hL (And.intro hn hp))
  have HZ0 := Lib.hid h
  have HO0 := Lib.hid (Oth.refl B w)
  have HR := Lib.hid (And.intro hop hq)
  have HB := Lib.hid h.lt
  clear h hE hL hn hop hq
  go_enter Tryz.func43, Tryz.ntmps43
  go_wp2
  go_loopw [5] (fun i wr => ∃ j : Nat, i = .int .i64 (j : Int) ∧ 1 ≤ j ∧ j ≤ 15 ∧ Hid (e = 0 → sgFrom (Ts L) r p j) ∧ Hid (Rz wr B (.slice A n c) p e) ∧ Hid (Oth B w wr)) (fun i _ => 15 - (intOf i).toNat)
  case atStart => exact ⟨1, rfl, Nat.le_refl _, by omega, Lib.hid (fun _ o h1 h2 => by omega), HZ0, HO0⟩
  case round =>
    obtain ⟨j, rfl, hj1, hj, HN, HZ, HO⟩ := hrel
    by_cases hj15 : j = 15
    · have t0 : ¬ (j : Int) ≤ 14 := by omega
      have t1 : decide ((j : Int) ≤ 14) = false := decide_eq_false t0
      have HF := Lib.hid (show e = 0 → sgAt (Ts L) r p = 0 from fun he => sg_miss fun o h1 h2 h3 => HN.out he o h1 (by omega) h3)
      clear hj15
      go_wp2_with fail
      go_ret
      obtain ⟨e1, e2⟩ := HR.out
      by_cases he : e = 0
      · rw [if_pos he, HF.out he] at e1
        rw [if_neg (by rw [HF.out he]; simp)] at e2
        subst e1 e2
        exact ⟨rfl, HZ.out, HO.out⟩
      · rw [if_neg he] at e1
        rw [if_neg (fun g => he g.1)] at e2
        subst e1 e2
        exact ⟨rfl, HZ.out, HO.out⟩
    · have t0 : (j : Int) ≤ 14 := by omega
      have t1 : decide ((j : Int) ≤ 14) = true := decide_eq_true t0
      have hb1 : (1 : Int) ≤ (j : Int) := by omega
      have hbw : Below wr.heap.size wr (wr.alloc (.cells #[.int .i64 5, .int .i64 (j : Int), .int .i64 0, .int .i64 0, .string ⟨#[]⟩, .string ⟨#[]⟩, .slice none 0 0] tE)) := al (Below.refl _ _) _
      have HOA := Lib.hid (HO.out.trans (Oth.of hbw (by have := HB.out; have := HO.out.size; omega)))
      have HZA := Lib.hid (HZ.out.below hbw)
      obtain ⟨r', hr'⟩ : ∃ r', rk 5 (j : Int) = r' := ⟨_, rfl⟩
      have HRK := Lib.hid (fun W => (show Calls Tryz.prog 64 #[exV 5 (j : Int) 0 0 ⟨#[]⟩ ⟨#[]⟩ none 0 0] W fun x w' => x = .returned (.int .i64 (r' : Int)) ∧ Below W.heap.size W w' from hr' ▸ rank10_any (j : Int) W))
      have HSG := Lib.hid (fun W => sign10_any (j : Int) hb1 t0 W)
      have HRR := Lib.hid hr'
      clear hbw hj15 hr'
      by_cases hr : r' = r
      · subst hr
        by_cases ht : e = 0 ∧ isT (Ts L) p (sg (j : Int)) = true
        · have HHV := Lib.hid (show ∀ W, Rz W B (.slice A n c) p e → Oth B w W → Calls Tryz.prog 40 #[pV B, .string (Ep.txt (sg (j : Int)))] W fun r w' => r = .returned (.bool true) ∧ Rz w' B (.slice A n c) (p + 1) 0 ∧ Oth B W w' from fun W hW hb => have_is hW (HE.out.oth hb) HL.out.1 HL.out.2.1 HL.out.2.2 ht.1 ht.2)
          have HF := Lib.hid (And.intro ht.1 (sg_hit hb1 t0 HRR.out ht.2))
          clear ht
          go_wp2_with (first
            | (go_at_call 64; (refine (HRK.out _).mono ?_); rintro e' w2 ⟨rfl, h1⟩; have H1 := Lib.hid (HZA.out.below h1); have H2 := Lib.hid (HOA.out.trans (Oth.of h1 (by have := HZA.out.lt; omega))); clear h1)
            | (go_at_call 65; (refine (HSG.out _).mono ?_); rintro e' w2 ⟨rfl, rfl⟩)
            | (go_at_call 40; (refine (HHV.out _ H1.out H2.out).mono ?_); rintro e' w3 ⟨rfl, h1, h2⟩; have H3 := Lib.hid h1; have H4 := Lib.hid (H2.out.trans h2); clear h1 h2))
          go_ret
          obtain ⟨e1, e2⟩ := HR.out
          obtain ⟨f1, f2⟩ := HF.out
          rw [if_pos f1, f2] at e1
          rw [if_pos ⟨f1, by rw [f2]; omega⟩] at e2
          subst e1 e2 f1
          exact ⟨rfl, H3.out, H4.out⟩
        · have ht2 : e ≠ 0 ∨ isT (Ts L) p (sg (j : Int)) = false := by
            by_cases he : e = 0
            · right
              cases hh : isT (Ts L) p (sg (j : Int)) with
              | false => rfl
              | true => exact absurd ⟨he, hh⟩ ht
            · exact .inl he
          have HHV := Lib.hid (show ∀ W, Rz W B (.slice A n c) p e → Oth B w W → Calls Tryz.prog 40 #[pV B, .string (Ep.txt (sg (j : Int)))] W fun r w' => r = .returned (.bool false) ∧ Rz w' B (.slice A n c) p e ∧ Oth B W w' from fun W hW hb => have_not hW (HE.out.oth hb) HL.out.1 HL.out.2.1 HL.out.2.2 ht2)
          have HF := Lib.hid ht2
          clear ht ht2
          go_wp2_with (first
            | (go_at_call 64; (refine (HRK.out _).mono ?_); rintro e' w2 ⟨rfl, h1⟩; have H1 := Lib.hid (HZA.out.below h1); have H2 := Lib.hid (HOA.out.trans (Oth.of h1 (by have := HZA.out.lt; omega))); clear h1)
            | (go_at_call 65; (refine (HSG.out _).mono ?_); rintro e' w2 ⟨rfl, rfl⟩)
            | (go_at_call 40; (refine (HHV.out _ H1.out H2.out).mono ?_); rintro e' w3 ⟨rfl, h1, h2⟩; have H3 := Lib.hid h1; have H4 := Lib.hid (H2.out.trans h2); clear h1 h2))
          go_roundw
          case rel =>
            refine ⟨j + 1, by simp, by omega, by omega, Lib.hid fun he o h1 h2 h3 => ?_, H3, H4⟩
            by_cases ho : o < (j : Int)
            · exact HN.out he o h1 ho h3
            · obtain rfl : o = (j : Int) := by omega
              exact HF.out.resolve_left (fun g => g he)
          case measure => simp [intOf]; omega
      · have t2 : ((r' : Int) == (r : Int)) = false := beq_no (by omega)
        have HT := Lib.hid hr
        clear hr
        go_wp2_with (go_at_call 64; (refine (HRK.out _).mono ?_); rintro e' w2 ⟨rfl, h1⟩; have H1 := Lib.hid (HZA.out.below h1); have H2 := Lib.hid (HOA.out.trans (Oth.of h1 (by have := HZA.out.lt; omega))); clear h1)
        go_roundw
        case rel =>
          refine ⟨j + 1, by simp, by omega, by omega, Lib.hid fun he o h1 h2 h3 => ?_, H1, H2⟩
          by_cases ho : o < (j : Int)
          · exact HN.out he o h1 ho h3
          · obtain rfl : o = (j : Int) := by omega
            exact absurd (HRR.out.symm.trans h3) HT.out
        case measure => simp [intOf]; omega
end
end Go.Proofs.YtlkmhdbmcfblkaaGreatDoor.Ep
