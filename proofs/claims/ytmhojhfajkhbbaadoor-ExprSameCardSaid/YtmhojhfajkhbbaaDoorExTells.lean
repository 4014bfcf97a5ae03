import Derived.Test.YtmhojhfajkhbbaaDoorExBares
/- An expression's text (Print): the program's answer, where its parts are written as they must be; and the law's example. -/
namespace Go.Proofs.YtmhojhfajkhbbaaDoor.Ep
open Go.RowKit Go.Proofs.YtmhojhfajkhbbaaDoor.Mem Go.Proofs.YtmhojhfajkhbbaaDoor.Right Go.Proofs.YtmhojhfajkhbbaaDoor.Lx
set_option linter.unusedVariables false

/-- What Print answers: a text, an error. -/
def printV (e : Ex) : List UInt8 × Int := if checkE true e ≠ 0 then ([], checkE true e) else if 400 < (tx (pcs e)).length then ([], 3) else (tx (pcs e), 0)
theorem rank_pos (e : Ex) : 1 ≤ e.rank := by
  obtain ⟨k, o, vk, vn, vs, nm, kids⟩ := e
  show 1 ≤ rk k o
  unfold rk
  repeat' split
  all_goals omega
theorem kid_one (e : Ex) : kidP e 1 = pcs e := by
  unfold kidP asked br
  rw [decide_eq_false (by have := rank_pos e; omega), if_neg (by decide)]
/-- A builder of the call's own, of which nothing is written. -/
theorem Bl.new (w : World) {b : Nat} (hb : w.heap.size = b) : Bl b [] (w.alloc (.cells #[.pointer none, .slice none 0 0] tB)) := by
  subst hb
  refine ⟨.inl ⟨Nat.le_refl _, .slice none 0 0, heap_alloc_new w _, World.ownsRowF_nil _ _ _ _, by simp [Value.ownBlock]⟩, by simp⟩
set_option maxHeartbeats 4000000 in
set_option maxRecDepth 100000 in
theorem print_any (e : Ex) (he : KidC e) (cs : List Value) (w : World) (h : ExAt w w.heap.size e cs) (hs : Signs w) (hO : Osg w) (hl : Lim e) (hlen : (tx (pcs e)).length ≤ 1000000) :
    Calls Tryd.prog 10 #[.agg cs.toArray] w fun x w' => x = .returned (.tuple #[.string (txt (printV e).1), .int .i64 (printV e).2]) ∧ Below w.heap.size w w' := by
  have hcs := h
  obtain ⟨k, o, vk, vn, vs, nm, kids⟩ := e
  obtain ⟨A, kn, c, rfl, -⟩ := ex_open h
  obtain ⟨e, hee⟩ : ∃ e, Ex.mk k o vk vn vs nm kids = e := ⟨_, rfl⟩
  rw [hee] at hcs hl he hlen ⊢
  clear hee h
  obtain ⟨W, hW⟩ : ∃ W, w.alloc (.cells #[.int .i64 k, .int .i64 o, .int .i64 vk, .int .i64 vn, .string (txt vs), .string (txt nm), .slice A kn c] tE) = W := ⟨_, rfl⟩
  have hb : Below w.heap.size w W := by rw [← hW]; exact al (Below.refl _ _) _
  have hbx : Cel W w.heap.size tE #[.int .i64 k, .int .i64 o, .int .i64 vk, .int .i64 vn, .string (txt vs), .string (txt nm), .slice A kn c] := by rw [← hW]; exact Cel.new w tE _ rfl
  have hX : ∀ W', Below (w.heap.size + 1) W W' → W'.cell? ⟨w.heap.size, 0, none⟩ = some (.int .i64 k) ∧ W'.cell? ⟨w.heap.size, 1, none⟩ = some (.int .i64 o) ∧ W'.cell? ⟨w.heap.size, 2, none⟩ = some (.int .i64 vk) ∧ W'.cell? ⟨w.heap.size, 3, none⟩ = some (.int .i64 vn) ∧ W'.cell? ⟨w.heap.size, 4, none⟩ = some (.string (txt vs)) ∧ W'.cell? ⟨w.heap.size, 5, none⟩ = some (.string (txt nm)) ∧ W'.cell? ⟨w.heap.size, 6, none⟩ = some (.slice A kn c) := fun W' hW' => by
    have hc : Cel W' w.heap.size tE #[.int .i64 k, .int .i64 o, .int .i64 vk, .int .i64 vn, .string (txt vs), .string (txt nm), .slice A kn c] := (hW'.block _ (Nat.lt_succ_self _)).trans hbx
    exact ⟨hc.at_ 0, hc.at_ 1, hc.at_ 2, hc.at_ 3, hc.at_ 4, hc.at_ 5, hc.at_ 6⟩
  have hsz : W.heap.size = w.heap.size + 1 := by rw [← hW]; simp
  obtain ⟨x0, x1, x2, x3, x4, x5, x6⟩ := hX W (Below.refl _ _)
  obtain ⟨er, her⟩ : ∃ er, checkE true e = er := ⟨_, rfl⟩
  have HC := Lib.hid (show Calls Tryd.prog 15 #[exV k o vk vn (txt vs) (txt nm) A kn c, .bool true] W fun x w' => x = .returned (.int .i64 er) ∧ Below W.heap.size W w' from by rw [← her]; exact check_any e _ true W (hcs.on hb) (hs.below hb hs.lt) hl)
  have HB := Lib.hid hb
  by_cases h0 : er = 0
  · subst h0
    have HK := Lib.hid (show ∀ W', Below W.heap.size W W' → Calls Tryd.prog 18 #[prV W'.heap.size, exV k o vk vn (txt vs) (txt nm) A kn c, .int .i64 1] (W'.alloc (.cells #[.pointer none, .slice none 0 0] tB)) fun x w' => x = .returned (.tuple #[]) ∧ ∃ l', Bl W'.heap.size l' w' ∧ Below W'.heap.size W' w' ∧ WT [] (tx (pcs e)) l' from fun W' hW' => by
      have hbw := Mem.on hb hW'
      have hsz' := hbw.size
      have hal : Below W'.heap.size W' (W'.alloc (.cells #[.pointer none, .slice none 0 0] tB)) := al (Below.refl _ _) _
      refine (he _ W'.heap.size 1 [] _ (ExIn.to (fun b hb' => Nat.lt_of_lt_of_le hb' hsz') (fun p hp => (Mem.on hbw hal).cell hp) e _ hcs) (Bl.new W' rfl) (hO.below (Mem.on hbw hal) hO.lt) (Nat.lt_of_lt_of_le hO.lt hsz') (by rw [kid_one]; simpa using hlen)).mono ?_
      rintro x w' ⟨rfl, l', h1, h2, h3⟩
      rw [kid_one] at h3
      exact ⟨rfl, l', h1, hal.trans h2.1, h3⟩)
    have HX := Lib.hid hX
    have HSZ := Lib.hid hsz
    have HLN := Lib.hid (fun b l w h => (long_any b l w h : Calls Tryd.prog 17 #[.pointer (some ⟨b, 0, none⟩)] w fun e w' => e = .returned (.int .i64 (l.length : Int)) ∧ w' = w))
    have HTD := Lib.hid (fun b l w h => (told_any b l w h : Calls Tryd.prog 19 #[.pointer (some ⟨b, 0, none⟩)] w fun e w' => e = .returned (.string (txt l)) ∧ Bl b l w' ∧ Wr b w w'))
    by_cases h4 : 400 < (tx (pcs e)).length
    · have HV := Lib.hid (show printV e = ([], 3) by unfold printV; rw [her, if_neg (by decide), if_pos h4])
      clear hcs hs hO hl hlen hb hbx hX hsz her he
      have H4 := Lib.hid h4
      clear h4
      go_enter Tryd.func10, Tryd.ntmps10
      go_wp2_with (first
        | (go_at_call 15; (with_reducible refine HC.out.mono ?_); rintro e' w2 ⟨rfl, hb2⟩; have HB2 := Lib.hid hb2; obtain ⟨x0, x1, x2, x3, x4, x5, x6⟩ := HX.out (w2.alloc (.cells #[.pointer none, .slice none 0 0] tB)) ((hb2.mono (Nat.le_of_eq HSZ.out.symm)).alloc (by have := hb2.size; have := HSZ.out; omega) _); clear hb2)
        | (go_at_call 18; (with_reducible refine (HK.out w2 HB2.out).mono ?_); rintro e' w3 ⟨rfl, l3, hl3, hb3, ht3⟩; have HL3 := Lib.hid hl3; have HB3 := Lib.hid (Mem.on (Mem.on HB.out HB2.out) hb3); have t3 : decide (400 < (l3.length : Int)) = true := decide_eq_true (by have := ht3.told.1.2 H4.out; omega); clear hl3 hb3 ht3)
        | (go_at_call 17; (with_reducible refine (HLN.out _ _ _ HL3.out).mono ?_); rintro e' w4 ⟨rfl, rfl⟩))
      go_ret2
      exact ⟨by rw [HV.out]; rfl, HB3.out⟩
    · have HV := Lib.hid (show printV e = (tx (pcs e), 0) by unfold printV; rw [her, if_neg (by decide), if_neg h4])
      clear hcs hs hO hl hlen hb hbx hX hsz her he
      have H4 := Lib.hid h4
      clear h4
      go_enter Tryd.func10, Tryd.ntmps10
      go_wp2_with (first
        | (go_at_call 15; (with_reducible refine HC.out.mono ?_); rintro e' w2 ⟨rfl, hb2⟩; have HB2 := Lib.hid hb2; obtain ⟨x0, x1, x2, x3, x4, x5, x6⟩ := HX.out (w2.alloc (.cells #[.pointer none, .slice none 0 0] tB)) ((hb2.mono (Nat.le_of_eq HSZ.out.symm)).alloc (by have := hb2.size; have := HSZ.out; omega) _); clear hb2)
        | (go_at_call 18; (with_reducible refine (HK.out w2 HB2.out).mono ?_); rintro e' w3 ⟨rfl, l3, hl3, hb3, ht3⟩; have HL3 := Lib.hid hl3; have HB3 := Lib.hid (Mem.on (Mem.on HB.out HB2.out) hb3); have t3 : decide (400 < (l3.length : Int)) = false := decide_eq_false (fun g => H4.out (ht3.told.1.1 (by omega))); have HE3 := Lib.hid (ht3.told.2 (by have := of_decide_eq_false t3; omega)); clear hl3 hb3 ht3)
        | (go_at_call 17; (with_reducible refine (HLN.out _ _ _ HL3.out).mono ?_); rintro e' w4 ⟨rfl, rfl⟩)
        | (go_at_call 19; (with_reducible refine (HTD.out _ _ _ HL3.out).mono ?_); rintro e' w5 ⟨rfl, hl5, hr5⟩; have HR5 := Lib.hid hr5; clear hl5 hr5))
      go_ret2
      exact ⟨by rw [HV.out, HE3.out]; rfl, HB3.out.trans (HR5.out.1.mono (by have := (Mem.on HB.out HB2.out).size; omega))⟩
  · have HV := Lib.hid (show printV e = ([], er) by unfold printV; rw [her, if_pos h0])
    have t0 : (er != 0) = true := bne_yes h0
    clear hcs hs hO hl hlen hb hbx hX hsz her he h0
    go_enter Tryd.func10, Tryd.ntmps10
    go_wp2_with (first
        | (go_at_call 15; (with_reducible refine HC.out.mono ?_); rintro e' w2 ⟨rfl, hb2⟩; have HB2 := Lib.hid hb2; clear hb2))
    go_ret2
    exact ⟨by rw [HV.out]; rfl, Mem.on HB.out HB2.out⟩
end Go.Proofs.YtmhojhfajkhbbaaDoor.Ep
/- The law's example: And over Or of a and b, and c, is written as it must be. -/
namespace Go.Proofs.YtmhojhfajkhbbaaDoor.Ep
open Go.RowKit Go.Proofs.YtmhojhfajkhbbaaDoor.Mem Go.Proofs.YtmhojhfajkhbbaaDoor.Right Go.Proofs.YtmhojhfajkhbbaaDoor.Lx
set_option linter.unusedVariables false

theorem colOf_any (s : ByteArray) (w : World) : Calls Tryd.prog 11 #[.string s] w fun e w' => e = .returned (exV 2 0 0 0 ⟨#[]⟩ s none 0 0) ∧ Below w.heap.size w w' := by
  have HB := Lib.hid (al (Below.refl w.heap.size w) (.cells #[.int .i64 2, .int .i64 0, .int .i64 0, .int .i64 0, .string ⟨#[]⟩, .string s, .slice none 0 0] tE))
  go_enter Tryd.func11, Tryd.ntmps11
  go_wp2
  (try simp only [Exit.inBlock, Exit.then])
  refine bodyPost_ret (v := exV 2 0 0 0 ⟨#[]⟩ s none 0 0) ?_ rfl ?_
  · simp only [results, Tryd.f11]
    go_simp
  exact ⟨rfl, HB.out⟩
theorem leaf_in {w : World} {S : Nat → Prop} (nm : List UInt8) : ExIn w S (col nm) [.int .i64 2, .int .i64 0, .int .i64 0, .int .i64 0, .string (txt []), .string (txt nm), .slice none 0 0] :=
  (exIn_mk _ _ _ _ _ _ _ _ _ _).2 ⟨none, 0, rfl, Nat.le_refl _, Nat.zero_le _, fun _ => rfl, kidsIn_nil _ _ _ _⟩
/-- Two kids side by side in a block of their own. -/
theorem two_kids {w : World} {S : Nat → Prop} {g : Nat} {a c : Ex} {ca cc : List Value} (h : Cel w g tE (ca ++ cc).toArray) (hg : S g) (h1 : ExIn w S a ca) (h2 : ExIn w S c cc) : KidsIn w S (some ⟨g, 0, none⟩) 0 [a, c] := by
  have l1 := h1.len
  have l2 := h2.len
  refine (kidsIn_cons _ _ _ _ _ _).2 ⟨⟨g, 0, ca, rfl, hg, l1, fun i u hu => ?_, h1⟩, (kidsIn_cons _ _ _ _ _ _).2 ⟨⟨g, 0, cc, rfl, hg, l2, fun i u hu => ?_, h2⟩, kidsIn_nil _ _ _ _⟩⟩
  · have hi := (List.getElem?_eq_some_iff.1 hu).1
    have := h.at_ (0 + 0 * 7 + i)
    rw [this, List.getElem?_toArray, Nat.zero_mul, Nat.add_zero, Nat.zero_add, List.getElem?_append_left hi]
    exact hu
  · have hi := (List.getElem?_eq_some_iff.1 hu).1
    have := h.at_ (0 + (0 + 1) * 7 + i)
    rw [this, List.getElem?_toArray, List.getElem?_append_right (by omega), l1, show 0 + (0 + 1) * 7 + i - 7 = i by omega]
    exact hu
def wTree : Ex := bin (((1 : Nat) : Int) + 1) (bin (((0 : Nat) : Int) + 1) (col [97]) (col [98])) (col [99])
theorem wTree_told : printV wTree = ([40, 97, 32, 79, 82, 32, 98, 41, 32, 65, 78, 68, 32, 99], 0) := by decide +kernel
theorem wTree_lim : Lim wTree := by
  unfold wTree bin col
  rw [lim_mk]
  refine ⟨by decide, by decide, fun x hx => ?_⟩
  simp only [List.mem_cons, List.not_mem_nil, or_false] at hx
  rcases hx with rfl | rfl
  · rw [lim_mk]
    refine ⟨by decide, by decide, fun x hx => ?_⟩
    simp only [List.mem_cons, List.not_mem_nil, or_false] at hx
    rcases hx with rfl | rfl
    all_goals (rw [lim_mk]; exact ⟨by decide, by decide, fun x hx => by simp at hx⟩)
  · rw [lim_mk]; exact ⟨by decide, by decide, fun x hx => by simp at hx⟩
theorem wTree_kid : KidC wTree :=
  kid_of_bare (bare_bin (kid_of_bare (bare_bin (kid_of_bare (bare_col _)) (kid_of_bare (bare_col _)) 0 (by decide))) (kid_of_bare (bare_col _)) 1 (by decide))
abbrev cl (nm : List UInt8) : List Value := [.int .i64 2, .int .i64 0, .int .i64 0, .int .i64 0, .string (txt []), .string (txt nm), .slice none 0 0]
abbrev bl (o : Int) (g : Nat) : List Value := [.int .i64 5, .int .i64 o, .int .i64 0, .int .i64 0, .string (txt []), .string (txt []), .slice (some ⟨g, 0, none⟩) 2 2]
/-- The example, wherever it lies. -/
theorem wTree_in (w w2 w3 : World) (hs : Signs w) (hO : Osg w) (h2 : Below w.heap.size w w2) (h3 : Below (w2.alloc (.cells (cl [97] ++ cl [98]).toArray tE)).heap.size (w2.alloc (.cells (cl [97] ++ cl [98]).toArray tE)) w3) :
    Below w.heap.size w (w3.alloc (.cells (bl 1 w2.heap.size ++ cl [99]).toArray tE)) ∧
    Calls Tryd.prog 10 #[exV 5 2 0 0 ⟨#[]⟩ ⟨#[]⟩ (some ⟨w3.heap.size, 0, none⟩) 2 2] (w3.alloc (.cells (bl 1 w2.heap.size ++ cl [99]).toArray tE)) fun x w' => x = .returned (.tuple #[.string ⟨#[40, 97, 32, 79, 82, 32, 98, 41, 32, 65, 78, 68, 32, 99]⟩, .int .i64 0]) ∧ Below (w3.alloc (.cells (bl 1 w2.heap.size ++ cl [99]).toArray tE)).heap.size (w3.alloc (.cells (bl 1 w2.heap.size ++ cl [99]).toArray tE)) w' := by
  have hb : Below w.heap.size w (w3.alloc (.cells (bl 1 w2.heap.size ++ cl [99]).toArray tE)) := al (Mem.on (al h2 _) h3) _
  have k1 : Cel (w3.alloc (.cells (bl 1 w2.heap.size ++ cl [99]).toArray tE)) w2.heap.size tE (cl [97] ++ cl [98]).toArray := ((Cel.new w2 tE _ rfl).below h3).alloc _
  have k2 : Cel (w3.alloc (.cells (bl 1 w2.heap.size ++ cl [99]).toArray tE)) w3.heap.size tE (bl 1 w2.heap.size ++ cl [99]).toArray := Cel.new w3 tE _ rfl
  have l1 := k1.lt
  have l2 := k2.lt
  have t1 : ExIn (w3.alloc (.cells (bl 1 w2.heap.size ++ cl [99]).toArray tE)) (fun b => b < (w3.alloc (.cells (bl 1 w2.heap.size ++ cl [99]).toArray tE)).heap.size) (bin 1 (col [97]) (col [98])) (bl 1 w2.heap.size) :=
    (exIn_mk _ _ _ _ _ _ _ _ _ _).2 ⟨_, 2, rfl, Nat.le_refl _, (by unfold maxLen; decide), (fun e => by cases e), two_kids k1 l1 (leaf_in _) (leaf_in _)⟩
  have t2 : ExIn (w3.alloc (.cells (bl 1 w2.heap.size ++ cl [99]).toArray tE)) (fun b => b < (w3.alloc (.cells (bl 1 w2.heap.size ++ cl [99]).toArray tE)).heap.size) wTree (bl 2 w3.heap.size) :=
    (exIn_mk _ _ _ _ _ _ _ _ _ _).2 ⟨_, 2, rfl, Nat.le_refl _, (by unfold maxLen; decide), (fun e => by cases e), two_kids k2 l2 t1 (leaf_in _)⟩
  have hp := print_any wTree wTree_kid _ _ t2 (hs.below hb hs.lt) (hO.below hb hO.lt) wTree_lim (by decide +kernel)
  rw [wTree_told] at hp
  exact ⟨hb, hp⟩
set_option maxHeartbeats 4000000 in
set_option maxRecDepth 100000 in
theorem works_any (w : World) (hs : Signs w) (hO : Osg w) : Calls Tryd.prog 5 #[] w fun e w' => e = .returned (.bool true) ∧ Below w.heap.size w w' := by
  have HT := Lib.hid (fun w2 w3 => wTree_in w w2 w3 hs hO)
  clear hs hO
  go_enter Tryd.func5, Tryd.ntmps5
  go_wp2_with (first
    | (go_at_call_of 11 (Value.string ⟨#[97]⟩); (with_reducible refine (colOf_any _ _).mono ?_); rintro e' w1 ⟨rfl, hb1⟩; have HB1 := Lib.hid hb1; clear hb1)
    | (go_at_call_of 11 (Value.string ⟨#[98]⟩); (with_reducible refine (colOf_any _ _).mono ?_); rintro e' w2 ⟨rfl, hb2⟩; have HB2 := Lib.hid (Mem.on HB1.out hb2); clear hb2)
    | (go_at_call_of 11 (Value.string ⟨#[99]⟩); (with_reducible refine (colOf_any _ _).mono ?_); rintro e' w3 ⟨rfl, hb3⟩; have HP := Lib.hid (HT.out w2 w3 HB2.out hb3); clear hb3)
    | (go_at_call 10; (refine HP.out.2.mono ?_); rintro e' w4 ⟨rfl, hb4⟩; have HB4 := Lib.hid (Mem.on HP.out.1 hb4); clear hb4))
  go_ret
  exact ⟨rfl, HB4.out⟩
end Go.Proofs.YtmhojhfajkhbbaaDoor.Ep
