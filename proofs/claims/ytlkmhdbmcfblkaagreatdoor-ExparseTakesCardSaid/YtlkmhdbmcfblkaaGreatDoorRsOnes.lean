import Derived.Test.YtlkmhdbmcfblkaaGreatDoorRsOne
/- The document's parser reads what holds together most, where it says no value. -/
namespace Go.Proofs.YtlkmhdbmcfblkaaGreatDoor.Ep
open Go.RowKit Go.Proofs.YtlkmhdbmcfblkaaGreatDoor.Mem Go.Proofs.YtlkmhdbmcfblkaaGreatDoor.Right Go.Proofs.YtlkmhdbmcfblkaaGreatDoor.Lx Go.Deep
set_option linter.unusedVariables false

theorem gives_leaf {w W2 : World} {B p : Nat} {tk : Value} {R : Res Ex} (hB : B < w.heap.size) (k o vk vn : Int) (vs nm : List UInt8) (hz : Rz W2 B tk p 0) (ho : Oth B w W2) (hg : GotR R (.mk k o vk vn vs nm []) (p + 1) 0) :
    Gives w B tk R (.returned (.agg #[.int .i64 k, .int .i64 o, .int .i64 vk, .int .i64 vn, .string (Ep.txt vs), .string (Ep.txt nm), .slice none 0 0])) (put7 (W2.setCell ⟨B, 1, none⟩ (.int .i64 ((p : Int) + 1))) w.heap.size 0 (.int .i64 k) (.int .i64 o) (.int .i64 vk) (.int .i64 vn) (.string (Ep.txt vs)) (.string (Ep.txt nm)) (.slice none 0 0)) :=
  gives_put (a := W2.setCell ⟨B, 1, none⟩ (.int .i64 ((p : Int) + 1))) (x := .mk k o vk vn vs nm []) (q := p + 1) (e := 0) hB (ExIn.to (fun _ h => h) (fun _ _ => rfl) _ _ (leaf_cells _ _ k o vk vn vs nm)) (Cel.set hz 1 (.int .i64 ((p : Int) + 1))) hg (ho.set _ _)
theorem gives_call {w W w5 : World} {B g m c q : Nat} {e : Int} {tk : Value} {R : Res Ex} {F : Res (List Ex)} {xs : List Ex} (hB : B < w.heap.size) (hw : w.heap.size + 1 < W.heap.size) (hW : Oth B w W) (nm : List UInt8) (hl : OwnL W w5 (.slice (some ⟨g, 0, none⟩) m c) xs) (hz : Rz w5 B tk q e) (hg : GotR F xs q e) (hR : (F.bind fun l q => .ok (call nm l) q) = R) (ho : Oth B W w5) :
    Gives w B tk R (.returned (.agg #[.int .i64 7, .int .i64 0, .int .i64 0, .int .i64 0, .string ⟨#[]⟩, .string (Ep.txt nm), .slice (some ⟨g, 0, none⟩) m c])) (put7 w5 w.heap.size 0 (.int .i64 7) (.int .i64 0) (.int .i64 0) (.int .i64 0) (.string ⟨#[]⟩) (.string (Ep.txt nm)) (.slice (some ⟨g, 0, none⟩) m c)) := by
  refine gives_put (a := w5) (x := call nm xs) hB (tree_call hl (by omega) nm) hz ?_ (hW.trans ho)
  rw [← hR]
  exact hg.map _
set_option maxRecDepth 100000 in
set_option maxHeartbeats 4000000 in
theorem oneR_col {B n c N : Nat} {A : Option Addr} {L : List To} (hL : Rts L) (hn : n = L.length) {w : World} {p : Nat} (h : Rz w B (.slice A n c) p 0) (hE : ToksIn w (fun b => b < B) A L) (hp : p < L.length) (hv : isVal (tk (Ts L) p) = false) (h1 : (tk (Ts L) p).1 = 1) : Calls Tryz.prog 42 #[pV B] w (Gives w B (.slice A n c) (oneP (Ts L) (N + 1) p)) := by
  obtain ⟨x, hx⟩ := to_some hp
  have hp1 : p ≤ 1000 := by have := hL.1; omega
  obtain ⟨hat, hk0, hkind⟩ := right_kind (hL.at_ hx).1
  have htx := (hL.at_ hx).2
  have hB := h.lt
  have hVA := value09_any x (hL.at_ hx).1 htx
  obtain ⟨⟨rk, rn, rs, re⟩, hrd⟩ : ∃ g, valR x = g := ⟨_, rfl⟩
  rw [hrd] at hVA
  obtain ⟨b, o, hA, hpn, x0, x1, x2⟩ := h.tok hE hx hn
  have hvc := fun hv => val_cases (hL.at_ hx).1 hv
  have htk := tk_at hx
  obtain ⟨k, l, a⟩ := x
  subst hA
  replace hkind : k = (kindOf l : Int) := hkind
  have HVA := Lib.hid (show ∀ W, Calls Tryz.prog 63 #[.agg #[.int .i64 k, .string (Ep.txt l), .int .i64 a]] W fun e w' => e = .returned (.tuple #[.agg #[.int .i64 rk, .int .i64 rn, .string (Ep.txt rs)], .int .i64 re]) ∧ Below W.heap.size W w' from hVA)
  have q0 := past (h.at_ 0) (.cells zC.toArray tE)
  have q1 := past (h.at_ 1) (.cells zC.toArray tE)
  have q0' := past q0 (.cells #[.int .i64 0, .string ⟨#[]⟩, .int .i64 0] tRT)
  have q1' := past q1 (.cells #[.int .i64 0, .string ⟨#[]⟩, .int .i64 0] tRT)
  have x0' := past (past x0 (.cells zC.toArray tE)) (.cells #[.int .i64 0, .string ⟨#[]⟩, .int .i64 0] tRT)
  have x1' := past (past x1 (.cells zC.toArray tE)) (.cells #[.int .i64 0, .string ⟨#[]⟩, .int .i64 0] tRT)
  have x2' := past (past x2 (.cells zC.toArray tE)) (.cells #[.int .i64 0, .string ⟨#[]⟩, .int .i64 0] tRT)
  have y0 := past x0 (.cells zC.toArray tE)
  have y1 := past x1 (.cells zC.toArray tE)
  have y2 := past x2 (.cells zC.toArray tE)
  obtain ⟨W1, hW1⟩ : ∃ W1, ((w.alloc (.cells zC.toArray tE)).alloc (.cells #[.int .i64 k, .string (Ep.txt l), .int .i64 a] tRT)).drew = W1 := ⟨_, rfl⟩
  have hb1 : Below w.heap.size w W1 := hW1 ▸ (al (al (Below.refl _ _) _) _).drew
  have hM1 : Omid w W1 B k (Ep.txt l) a := by
    refine ⟨?_, ?_, Oth.of hb1 (Nat.le_of_lt hB), ?_⟩
    · rw [← hW1]; exact (Cel.new w tE _ rfl).alloc _
    · rw [← hW1]; exact Cel.new (w.alloc _) tRT _ (by simp)
    · rw [← hW1]; simp
  have HM1 := Lib.hid hM1
  have HZ1 := Lib.hid (h.below hb1)
  have u0 : W1.cell? ⟨w.heap.size + 1, 0, none⟩ = some (.int .i64 k) := hM1.c3.at_ 0
  have u1 : W1.cell? ⟨w.heap.size + 1, 1, none⟩ = some (.string (Ep.txt l)) := hM1.c3.at_ 1
  have u2 : W1.cell? ⟨w.heap.size + 1, 2, none⟩ = some (.int .i64 a) := hM1.c3.at_ 2
  have HB := Lib.hid hB
  have hnb0 : ¬ B = w.heap.size := by omega
  have hnb1 : ¬ B = w.heap.size + 1 := by omega
  have hnb2 : ¬ w.heap.size + 1 = B := by omega
  have hR : oneP (Ts L) (N + 1) p = .ok (col l) (p + 1) := by rw [oneP, if_neg (by simp [hv]), if_pos h1, htk]; rfl
  rw [hR]
  have hnv : ¬ l = Val.wTrue ∧ ¬ l = Val.wFalse ∧ ¬ l = Val.wNull ∧ k ≠ 3 ∧ k ≠ 4 := by
    rw [htk] at hv
    unfold isVal toTt at hv
    simp only [Bool.or_eq_false_iff, beq_eq_false_iff_ne] at hv
    refine ⟨hv.1.1.2, hv.1.2, hv.2, fun e => hv.1.1.1.1 (by omega), fun e => hv.1.1.1.2 (by omega)⟩
  have s1 : ((Ep.txt l).toList == [84, 82, 85, 69]) = false := text_no hnv.1
  have s2 : ((Ep.txt l).toList == [70, 65, 76, 83, 69]) = false := text_no hnv.2.1
  have s3 : ((Ep.txt l).toList == [78, 85, 76, 76]) = false := text_no hnv.2.2.1
  have hk1 : k = 1 := by rw [htk] at h1; have h1 : k.toNat = 1 := h1; omega
  clear hL hv hvc hR h1 hnv h hE hx hn hb1 hM1 hVA x0 x1 x2 hk0 hat hrd hkind htx htk
  subst hk1
  go_enter Tryz.func42, Tryz.ntmps42
  go_wp2
  go_region
  go_wp2_with (go_at_call 63; (refine (HVA.out _).mono ?_); rintro e' w2 ⟨rfl, hb⟩; have hb3 := al (Below.refl w2.heap.size w2) (.cells #[.int .i64 rk, .int .i64 rn, .string (Ep.txt rs)] 29); obtain ⟨W2, hW2⟩ : ∃ W2, w2.alloc (.cells #[.int .i64 rk, .int .i64 rn, .string (Ep.txt rs)] 29) = W2 := ⟨_, rfl⟩; rw [hW2] at hb3; have hne : ¬ B = w2.heap.size := (by have := (HM1.out.bel HB.out hb).lt; have := HB.out; omega); have hne' : ¬ w2.heap.size = B := fun e => hne e.symm; have M := (HM1.out.bel HB.out hb).bel HB.out hb3; have H2 := Lib.hid M; have hz2 := (HZ1.out.below hb).below hb3; have H3 := Lib.hid hz2; have hv4 : Cel W2 w2.heap.size 29 #[.int .i64 rk, .int .i64 rn, .string (Ep.txt rs)] := hW2 ▸ Cel.new w2 _ _ rfl; have i0 := hv4.at_ 0; have i1 := hv4.at_ 1; have i2 := hv4.at_ 2; have j0 := M.c3.at_ 0; have j1 := M.c3.at_ 1; have z1 := hz2.at_ 1; have z2 := hz2.at_ 2; have g1 := hz2.open_ 1; have g2 := hz2.open_ 2; have b0 := M.c2.at_ 0; have b1 := M.c2.at_ 1; have b2 := M.c2.at_ 2; have b3 := M.c2.at_ 3; have b4 := M.c2.at_ 4; have b5 := M.c2.at_ 5; have b6 := M.c2.at_ 6; have f4 := fun i => M.c2.open_ i; clear hb hb3 M hz2 hv4)
  (try simp only [Exit.inBlock, Exit.then])
  refine bodyPost_ret (v := .agg #[.int .i64 2, .int .i64 0, .int .i64 0, .int .i64 0, .string ⟨#[]⟩, .string (Ep.txt l), .slice none 0 0]) ?_ rfl ?_
  · simp only [results, Tryz.f42]
    go_simp
  exact gives_leaf HB.out 2 0 0 0 [] l H3.out H2.out.oth ⟨rfl, rfl, rfl⟩
set_option maxRecDepth 100000 in
set_option maxHeartbeats 4000000 in
theorem oneR_COAL {B n c N : Nat} {A : Option Addr} {L : List To} (hL : Rts L) (hn : n = L.length) {w : World} {p : Nat} (h : Rz w B (.slice A n c) p 0) (hE : ToksIn w (fun b => b < B) A L) (hp : p < L.length) (hv : isVal (tk (Ts L) p) = false) (h1 : (tk (Ts L) p).1 ≠ 1) (h5 : (tk (Ts L) p).1 ≠ 5)  (hy : isT (Ts L) p kCOAL = true) (hlist : ReadsRL 62 B A n c L 4 (fun p => listP (Ts L) N 4 p)) (h99 : ∀ q, oneP (Ts L) (N + 1) p ≠ .err 99 q) : Calls Tryz.prog 42 #[pV B] w (Gives w B (.slice A n c) (oneP (Ts L) (N + 1) p)) := by
  obtain ⟨x, hx⟩ := to_some hp
  have HE := Lib.hid hE
  obtain ⟨hat, hk0, hkind⟩ := right_kind (hL.at_ hx).1
  have htx := (hL.at_ hx).2
  have hB := h.lt
  have hVA := value09_any x (hL.at_ hx).1 htx
  obtain ⟨⟨rk, rn, rs, re⟩, hrd⟩ : ∃ g, valR x = g := ⟨_, rfl⟩
  rw [hrd] at hVA
  obtain ⟨b, o, hA, hpn, x0, x1, x2⟩ := h.tok hE hx hn
  have hvc := fun hv => val_cases (hL.at_ hx).1 hv
  have htk := tk_at hx
  obtain ⟨k, l, a⟩ := x
  subst hA
  replace hkind : k = (kindOf l : Int) := hkind
  have HVA := Lib.hid (show ∀ W, Calls Tryz.prog 63 #[.agg #[.int .i64 k, .string (Ep.txt l), .int .i64 a]] W fun e w' => e = .returned (.tuple #[.agg #[.int .i64 rk, .int .i64 rn, .string (Ep.txt rs)], .int .i64 re]) ∧ Below W.heap.size W w' from hVA)
  have q0 := past (h.at_ 0) (.cells zC.toArray tE)
  have q1 := past (h.at_ 1) (.cells zC.toArray tE)
  have q0' := past q0 (.cells #[.int .i64 0, .string ⟨#[]⟩, .int .i64 0] tRT)
  have q1' := past q1 (.cells #[.int .i64 0, .string ⟨#[]⟩, .int .i64 0] tRT)
  have x0' := past (past x0 (.cells zC.toArray tE)) (.cells #[.int .i64 0, .string ⟨#[]⟩, .int .i64 0] tRT)
  have x1' := past (past x1 (.cells zC.toArray tE)) (.cells #[.int .i64 0, .string ⟨#[]⟩, .int .i64 0] tRT)
  have x2' := past (past x2 (.cells zC.toArray tE)) (.cells #[.int .i64 0, .string ⟨#[]⟩, .int .i64 0] tRT)
  have y0 := past x0 (.cells zC.toArray tE)
  have y1 := past x1 (.cells zC.toArray tE)
  have y2 := past x2 (.cells zC.toArray tE)
  obtain ⟨W1, hW1⟩ : ∃ W1, ((w.alloc (.cells zC.toArray tE)).alloc (.cells #[.int .i64 k, .string (Ep.txt l), .int .i64 a] tRT)).drew = W1 := ⟨_, rfl⟩
  have hb1 : Below w.heap.size w W1 := hW1 ▸ (al (al (Below.refl _ _) _) _).drew
  have hM1 : Omid w W1 B k (Ep.txt l) a := by
    refine ⟨?_, ?_, Oth.of hb1 (Nat.le_of_lt hB), ?_⟩
    · rw [← hW1]; exact (Cel.new w tE _ rfl).alloc _
    · rw [← hW1]; exact Cel.new (w.alloc _) tRT _ (by simp)
    · rw [← hW1]; simp
  have HM1 := Lib.hid hM1
  have HZ1 := Lib.hid (h.below hb1)
  have u0 : W1.cell? ⟨w.heap.size + 1, 0, none⟩ = some (.int .i64 k) := hM1.c3.at_ 0
  have u1 : W1.cell? ⟨w.heap.size + 1, 1, none⟩ = some (.string (Ep.txt l)) := hM1.c3.at_ 1
  have u2 : W1.cell? ⟨w.heap.size + 1, 2, none⟩ = some (.int .i64 a) := hM1.c3.at_ 2
  have HB := Lib.hid hB
  have hnb0 : ¬ B = w.heap.size := by omega
  have hnb1 : ¬ B = w.heap.size + 1 := by omega
  have hnb2 : ¬ w.heap.size + 1 = B := by omega
  have hnv : ¬ l = Val.wTrue ∧ ¬ l = Val.wFalse ∧ ¬ l = Val.wNull ∧ k ≠ 3 ∧ k ≠ 4 := by
    rw [htk] at hv
    unfold isVal toTt at hv
    simp only [Bool.or_eq_false_iff, beq_eq_false_iff_ne] at hv
    refine ⟨hv.1.1.2, hv.1.2, hv.2, fun e => hv.1.1.1.1 (by omega), fun e => hv.1.1.1.2 (by omega)⟩
  have s1 : ((Ep.txt l).toList == [84, 82, 85, 69]) = false := text_no hnv.1
  have s2 : ((Ep.txt l).toList == [70, 65, 76, 83, 69]) = false := text_no hnv.2.1
  have s3 : ((Ep.txt l).toList == [78, 85, 76, 76]) = false := text_no hnv.2.2.1
  have hk1 : (k == 1) = false := beq_no fun e => h1 (by rw [htk]; show k.toNat = 1; omega)
  have hk5 : (k == 5) = false := beq_no fun e => h5 (by rw [htk]; show k.toNat = 5; omega)
  have hk3 : (k == 3) = false := beq_no hnv.2.2.2.1
  have hk4 : (k == 4) = false := beq_no hnv.2.2.2.2
  obtain ⟨R, hR⟩ : ∃ R, oneP (Ts L) (N + 1) p = R := ⟨_, rfl⟩
  rw [hR] at h99 ⊢
  rw [oneP, if_neg (by simp [hv]), if_neg h1, if_neg h5,  if_pos hy] at hR
  have h992 := no99_bind (fun q' => by rw [hR]; exact h99 q')
  have hp1 : p + 1 < L.length := by have := hL.2.2.isT (by rw [Ts_len]; exact hp) hy; rwa [Ts_len] at this
  have HYCOAL := Lib.hid (show ∀ W, Rz W B (.slice (some ⟨b, o, none⟩) n c) p 0 → Oth B w W → Calls Tryz.prog 40 #[pV B, .string ⟨#[67, 79, 65, 76, 69, 83, 67, 69]⟩] W fun r w' => r = .returned (.bool true) ∧ Rz w' B (.slice (some ⟨b, o, none⟩) n c) (p + 1) 0 ∧ Oth B W w' from fun W hW hb => have_is hW (HE.out.oth hb) hL hn hp rfl (k := kCOAL) hy)
  have HLI := Lib.hid (show ∀ W, Rz W B (.slice (some ⟨b, o, none⟩) n c) (p + 1) 0 → Oth B w W → Calls Tryz.prog 62 #[pV B, .int .i64 4] W (GivesL W B (.slice (some ⟨b, o, none⟩) n c) (listP (Ts L) N 4 (p + 1))) from fun W hW hb => hlist.got hW (HE.out.oth hb) hp1 rfl h992)
  have HR := Lib.hid hR
  have HPN := Lib.hid hpn
  clear hL hv hvc hR h1 h5 hnv hy hlist h99 h992 hp1  h hE hx hn hb1 hM1 hVA x0 x1 x2 hk0 hat hrd hkind htx htk
  go_enter Tryz.func42, Tryz.ntmps42
  go_wp2
  go_region
  go_wp2_with (first
    | (go_at_call 63; (refine (HVA.out _).mono ?_); rintro e' w2 ⟨rfl, hb⟩; have hb3 := al (Below.refl w2.heap.size w2) (.cells #[.int .i64 rk, .int .i64 rn, .string (Ep.txt rs)] 29); obtain ⟨W2, hW2⟩ : ∃ W2, w2.alloc (.cells #[.int .i64 rk, .int .i64 rn, .string (Ep.txt rs)] 29) = W2 := ⟨_, rfl⟩; rw [hW2] at hb3; have hne : ¬ B = w2.heap.size := (by have := (HM1.out.bel HB.out hb).lt; have := HB.out; omega); have hne' : ¬ w2.heap.size = B := fun e => hne e.symm; have M := (HM1.out.bel HB.out hb).bel HB.out hb3; have H2 := Lib.hid M; have hz2 := (HZ1.out.below hb).below hb3; have H3 := Lib.hid hz2; have hv4 : Cel W2 w2.heap.size 29 #[.int .i64 rk, .int .i64 rn, .string (Ep.txt rs)] := hW2 ▸ Cel.new w2 _ _ rfl; have i0 := hv4.at_ 0; have i1 := hv4.at_ 1; have i2 := hv4.at_ 2; have j0 := M.c3.at_ 0; have j1 := M.c3.at_ 1; have z1 := hz2.at_ 1; have z2 := hz2.at_ 2; have g1 := hz2.open_ 1; have g2 := hz2.open_ 2; have b0 := M.c2.at_ 0; have b1 := M.c2.at_ 1; have b2 := M.c2.at_ 2; have b3 := M.c2.at_ 3; have b4 := M.c2.at_ 4; have b5 := M.c2.at_ 5; have b6 := M.c2.at_ 6; have f4 := fun i => M.c2.open_ i; clear hb hb3 M hz2 hv4)
    | (go_at_call_of 40 (Value.string ⟨#[67, 79, 65, 76, 69, 83, 67, 69]⟩); (refine (HYCOAL.out _ H3.out H2.out.oth).mono ?_); rintro e' w4 ⟨rfl, hz, ho⟩; have H4 := Lib.hid (H2.out.next HB.out ho); have H5 := Lib.hid hz; clear hz ho)
    | (go_at_call 62; (refine (HLI.out _ H5.out H4.out.oth).mono ?_); rintro e' w9 ⟨ys, g5, m5, c5, q5, e5, rfl, -, -, -, hol, hz, hg, ho⟩; have H10 := Lib.hid (And.intro hol (And.intro hz (And.intro hg ho))); have M := H4.out.next HB.out ho; have b0 := M.c2.at_ 0; have b1 := M.c2.at_ 1; have b2 := M.c2.at_ 2; have b3 := M.c2.at_ 3; have b4 := M.c2.at_ 4; have b5 := M.c2.at_ 5; have b6 := M.c2.at_ 6; have f4 := fun i => M.c2.open_ i; clear M hol hz hg ho))
  (try simp only [Exit.inBlock, Exit.then])
  refine bodyPost_ret (v := .agg #[.int .i64 7, .int .i64 0, .int .i64 0, .int .i64 0, .string ⟨#[]⟩, .string ⟨#[99, 111, 97, 108, 101, 115, 99, 101]⟩, .slice (some ⟨g5, 0, none⟩) m5 c5]) ?_ rfl ?_
  · simp only [results, Tryz.f42]
    go_simp
  exact gives_call HB.out H4.out.lt H4.out.oth nCoal H10.out.1 H10.out.2.1 H10.out.2.2.1 HR.out H10.out.2.2.2
set_option maxRecDepth 100000 in
set_option maxHeartbeats 4000000 in
theorem oneR_LEN {B n c N : Nat} {A : Option Addr} {L : List To} (hL : Rts L) (hn : n = L.length) {w : World} {p : Nat} (h : Rz w B (.slice A n c) p 0) (hE : ToksIn w (fun b => b < B) A L) (hp : p < L.length) (hv : isVal (tk (Ts L) p) = false) (h1 : (tk (Ts L) p).1 ≠ 1) (h5 : (tk (Ts L) p).1 ≠ 5) (hnCOAL : isT (Ts L) p kCOAL = false) (hy : isT (Ts L) p kLEN = true) (hlist : ReadsRL 62 B A n c L 1 (fun p => listP (Ts L) N 1 p)) (h99 : ∀ q, oneP (Ts L) (N + 1) p ≠ .err 99 q) : Calls Tryz.prog 42 #[pV B] w (Gives w B (.slice A n c) (oneP (Ts L) (N + 1) p)) := by
  obtain ⟨x, hx⟩ := to_some hp
  have HE := Lib.hid hE
  obtain ⟨hat, hk0, hkind⟩ := right_kind (hL.at_ hx).1
  have htx := (hL.at_ hx).2
  have hB := h.lt
  have hVA := value09_any x (hL.at_ hx).1 htx
  obtain ⟨⟨rk, rn, rs, re⟩, hrd⟩ : ∃ g, valR x = g := ⟨_, rfl⟩
  rw [hrd] at hVA
  obtain ⟨b, o, hA, hpn, x0, x1, x2⟩ := h.tok hE hx hn
  have hvc := fun hv => val_cases (hL.at_ hx).1 hv
  have htk := tk_at hx
  obtain ⟨k, l, a⟩ := x
  subst hA
  replace hkind : k = (kindOf l : Int) := hkind
  have HVA := Lib.hid (show ∀ W, Calls Tryz.prog 63 #[.agg #[.int .i64 k, .string (Ep.txt l), .int .i64 a]] W fun e w' => e = .returned (.tuple #[.agg #[.int .i64 rk, .int .i64 rn, .string (Ep.txt rs)], .int .i64 re]) ∧ Below W.heap.size W w' from hVA)
  have q0 := past (h.at_ 0) (.cells zC.toArray tE)
  have q1 := past (h.at_ 1) (.cells zC.toArray tE)
  have q0' := past q0 (.cells #[.int .i64 0, .string ⟨#[]⟩, .int .i64 0] tRT)
  have q1' := past q1 (.cells #[.int .i64 0, .string ⟨#[]⟩, .int .i64 0] tRT)
  have x0' := past (past x0 (.cells zC.toArray tE)) (.cells #[.int .i64 0, .string ⟨#[]⟩, .int .i64 0] tRT)
  have x1' := past (past x1 (.cells zC.toArray tE)) (.cells #[.int .i64 0, .string ⟨#[]⟩, .int .i64 0] tRT)
  have x2' := past (past x2 (.cells zC.toArray tE)) (.cells #[.int .i64 0, .string ⟨#[]⟩, .int .i64 0] tRT)
  have y0 := past x0 (.cells zC.toArray tE)
  have y1 := past x1 (.cells zC.toArray tE)
  have y2 := past x2 (.cells zC.toArray tE)
  obtain ⟨W1, hW1⟩ : ∃ W1, ((w.alloc (.cells zC.toArray tE)).alloc (.cells #[.int .i64 k, .string (Ep.txt l), .int .i64 a] tRT)).drew = W1 := ⟨_, rfl⟩
  have hb1 : Below w.heap.size w W1 := hW1 ▸ (al (al (Below.refl _ _) _) _).drew
  have hM1 : Omid w W1 B k (Ep.txt l) a := by
    refine ⟨?_, ?_, Oth.of hb1 (Nat.le_of_lt hB), ?_⟩
    · rw [← hW1]; exact (Cel.new w tE _ rfl).alloc _
    · rw [← hW1]; exact Cel.new (w.alloc _) tRT _ (by simp)
    · rw [← hW1]; simp
  have HM1 := Lib.hid hM1
  have HZ1 := Lib.hid (h.below hb1)
  have u0 : W1.cell? ⟨w.heap.size + 1, 0, none⟩ = some (.int .i64 k) := hM1.c3.at_ 0
  have u1 : W1.cell? ⟨w.heap.size + 1, 1, none⟩ = some (.string (Ep.txt l)) := hM1.c3.at_ 1
  have u2 : W1.cell? ⟨w.heap.size + 1, 2, none⟩ = some (.int .i64 a) := hM1.c3.at_ 2
  have HB := Lib.hid hB
  have hnb0 : ¬ B = w.heap.size := by omega
  have hnb1 : ¬ B = w.heap.size + 1 := by omega
  have hnb2 : ¬ w.heap.size + 1 = B := by omega
  have hnv : ¬ l = Val.wTrue ∧ ¬ l = Val.wFalse ∧ ¬ l = Val.wNull ∧ k ≠ 3 ∧ k ≠ 4 := by
    rw [htk] at hv
    unfold isVal toTt at hv
    simp only [Bool.or_eq_false_iff, beq_eq_false_iff_ne] at hv
    refine ⟨hv.1.1.2, hv.1.2, hv.2, fun e => hv.1.1.1.1 (by omega), fun e => hv.1.1.1.2 (by omega)⟩
  have s1 : ((Ep.txt l).toList == [84, 82, 85, 69]) = false := text_no hnv.1
  have s2 : ((Ep.txt l).toList == [70, 65, 76, 83, 69]) = false := text_no hnv.2.1
  have s3 : ((Ep.txt l).toList == [78, 85, 76, 76]) = false := text_no hnv.2.2.1
  have hk1 : (k == 1) = false := beq_no fun e => h1 (by rw [htk]; show k.toNat = 1; omega)
  have hk5 : (k == 5) = false := beq_no fun e => h5 (by rw [htk]; show k.toNat = 5; omega)
  have hk3 : (k == 3) = false := beq_no hnv.2.2.2.1
  have hk4 : (k == 4) = false := beq_no hnv.2.2.2.2
  obtain ⟨R, hR⟩ : ∃ R, oneP (Ts L) (N + 1) p = R := ⟨_, rfl⟩
  rw [hR] at h99 ⊢
  rw [oneP, if_neg (by simp [hv]), if_neg h1, if_neg h5, if_neg (by simp [hnCOAL]), if_pos hy] at hR
  have h992 := no99_bind (fun q' => by rw [hR]; exact h99 q')
  have hp1 : p + 1 < L.length := by have := hL.2.2.isT (by rw [Ts_len]; exact hp) hy; rwa [Ts_len] at this
  have HNCOAL := Lib.hid (show ∀ W, Rz W B (.slice (some ⟨b, o, none⟩) n c) p 0 → Oth B w W → Calls Tryz.prog 40 #[pV B, .string ⟨#[67, 79, 65, 76, 69, 83, 67, 69]⟩] W fun r w' => r = .returned (.bool false) ∧ Rz w' B (.slice (some ⟨b, o, none⟩) n c) p 0 ∧ Oth B W w' from fun W hW hb => have_not hW (HE.out.oth hb) hL hn hp (k := kCOAL) (.inr hnCOAL))
  have HYLEN := Lib.hid (show ∀ W, Rz W B (.slice (some ⟨b, o, none⟩) n c) p 0 → Oth B w W → Calls Tryz.prog 40 #[pV B, .string ⟨#[76, 69, 78, 71, 84, 72]⟩] W fun r w' => r = .returned (.bool true) ∧ Rz w' B (.slice (some ⟨b, o, none⟩) n c) (p + 1) 0 ∧ Oth B W w' from fun W hW hb => have_is hW (HE.out.oth hb) hL hn hp rfl (k := kLEN) hy)
  have HLI := Lib.hid (show ∀ W, Rz W B (.slice (some ⟨b, o, none⟩) n c) (p + 1) 0 → Oth B w W → Calls Tryz.prog 62 #[pV B, .int .i64 1] W (GivesL W B (.slice (some ⟨b, o, none⟩) n c) (listP (Ts L) N 1 (p + 1))) from fun W hW hb => hlist.got hW (HE.out.oth hb) hp1 rfl h992)
  have HR := Lib.hid hR
  have HPN := Lib.hid hpn
  clear hL hv hvc hR h1 h5 hnv hy hlist h99 h992 hp1 hnCOAL h hE hx hn hb1 hM1 hVA x0 x1 x2 hk0 hat hrd hkind htx htk
  go_enter Tryz.func42, Tryz.ntmps42
  go_wp2
  go_region
  go_wp2_with (first
    | (go_at_call 63; (refine (HVA.out _).mono ?_); rintro e' w2 ⟨rfl, hb⟩; have hb3 := al (Below.refl w2.heap.size w2) (.cells #[.int .i64 rk, .int .i64 rn, .string (Ep.txt rs)] 29); obtain ⟨W2, hW2⟩ : ∃ W2, w2.alloc (.cells #[.int .i64 rk, .int .i64 rn, .string (Ep.txt rs)] 29) = W2 := ⟨_, rfl⟩; rw [hW2] at hb3; have hne : ¬ B = w2.heap.size := (by have := (HM1.out.bel HB.out hb).lt; have := HB.out; omega); have hne' : ¬ w2.heap.size = B := fun e => hne e.symm; have M := (HM1.out.bel HB.out hb).bel HB.out hb3; have H2 := Lib.hid M; have hz2 := (HZ1.out.below hb).below hb3; have H3 := Lib.hid hz2; have hv4 : Cel W2 w2.heap.size 29 #[.int .i64 rk, .int .i64 rn, .string (Ep.txt rs)] := hW2 ▸ Cel.new w2 _ _ rfl; have i0 := hv4.at_ 0; have i1 := hv4.at_ 1; have i2 := hv4.at_ 2; have j0 := M.c3.at_ 0; have j1 := M.c3.at_ 1; have z1 := hz2.at_ 1; have z2 := hz2.at_ 2; have g1 := hz2.open_ 1; have g2 := hz2.open_ 2; have b0 := M.c2.at_ 0; have b1 := M.c2.at_ 1; have b2 := M.c2.at_ 2; have b3 := M.c2.at_ 3; have b4 := M.c2.at_ 4; have b5 := M.c2.at_ 5; have b6 := M.c2.at_ 6; have f4 := fun i => M.c2.open_ i; clear hb hb3 M hz2 hv4)
    | (go_at_call_of 40 (Value.string ⟨#[67, 79, 65, 76, 69, 83, 67, 69]⟩); (refine (HNCOAL.out _ H3.out H2.out.oth).mono ?_); rintro e' w4 ⟨rfl, hz, ho⟩; have H4 := Lib.hid (H2.out.next HB.out ho); have H5 := Lib.hid hz; clear hz ho)
    | (go_at_call_of 40 (Value.string ⟨#[76, 69, 78, 71, 84, 72]⟩); (refine (HYLEN.out _ H5.out H4.out.oth).mono ?_); rintro e' w5 ⟨rfl, hz, ho⟩; have H6 := Lib.hid (H4.out.next HB.out ho); have H7 := Lib.hid hz; clear hz ho)
    | (go_at_call 62; (refine (HLI.out _ H7.out H6.out.oth).mono ?_); rintro e' w9 ⟨ys, g5, m5, c5, q5, e5, rfl, -, -, -, hol, hz, hg, ho⟩; have H10 := Lib.hid (And.intro hol (And.intro hz (And.intro hg ho))); have M := H6.out.next HB.out ho; have b0 := M.c2.at_ 0; have b1 := M.c2.at_ 1; have b2 := M.c2.at_ 2; have b3 := M.c2.at_ 3; have b4 := M.c2.at_ 4; have b5 := M.c2.at_ 5; have b6 := M.c2.at_ 6; have f4 := fun i => M.c2.open_ i; clear M hol hz hg ho))
  (try simp only [Exit.inBlock, Exit.then])
  refine bodyPost_ret (v := .agg #[.int .i64 7, .int .i64 0, .int .i64 0, .int .i64 0, .string ⟨#[]⟩, .string ⟨#[108, 101, 110, 103, 116, 104]⟩, .slice (some ⟨g5, 0, none⟩) m5 c5]) ?_ rfl ?_
  · simp only [results, Tryz.f42]
    go_simp
  exact gives_call HB.out H6.out.lt H6.out.oth nLen H10.out.1 H10.out.2.1 H10.out.2.2.1 HR.out H10.out.2.2.2
set_option maxRecDepth 100000 in
set_option maxHeartbeats 4000000 in
theorem oneR_ABS {B n c N : Nat} {A : Option Addr} {L : List To} (hL : Rts L) (hn : n = L.length) {w : World} {p : Nat} (h : Rz w B (.slice A n c) p 0) (hE : ToksIn w (fun b => b < B) A L) (hp : p < L.length) (hv : isVal (tk (Ts L) p) = false) (h1 : (tk (Ts L) p).1 ≠ 1) (h5 : (tk (Ts L) p).1 ≠ 5) (hnCOAL : isT (Ts L) p kCOAL = false) (hnLEN : isT (Ts L) p kLEN = false) (hy : isT (Ts L) p kABS = true) (hlist : ReadsRL 62 B A n c L 1 (fun p => listP (Ts L) N 1 p)) (h99 : ∀ q, oneP (Ts L) (N + 1) p ≠ .err 99 q) : Calls Tryz.prog 42 #[pV B] w (Gives w B (.slice A n c) (oneP (Ts L) (N + 1) p)) := by
  obtain ⟨x, hx⟩ := to_some hp
  have HE := Lib.hid hE
  obtain ⟨hat, hk0, hkind⟩ := right_kind (hL.at_ hx).1
  have htx := (hL.at_ hx).2
  have hB := h.lt
  have hVA := value09_any x (hL.at_ hx).1 htx
  obtain ⟨⟨rk, rn, rs, re⟩, hrd⟩ : ∃ g, valR x = g := ⟨_, rfl⟩
  rw [hrd] at hVA
  obtain ⟨b, o, hA, hpn, x0, x1, x2⟩ := h.tok hE hx hn
  have hvc := fun hv => val_cases (hL.at_ hx).1 hv
  have htk := tk_at hx
  obtain ⟨k, l, a⟩ := x
  subst hA
  replace hkind : k = (kindOf l : Int) := hkind
  have HVA := Lib.hid (show ∀ W, Calls Tryz.prog 63 #[.agg #[.int .i64 k, .string (Ep.txt l), .int .i64 a]] W fun e w' => e = .returned (.tuple #[.agg #[.int .i64 rk, .int .i64 rn, .string (Ep.txt rs)], .int .i64 re]) ∧ Below W.heap.size W w' from hVA)
  have q0 := past (h.at_ 0) (.cells zC.toArray tE)
  have q1 := past (h.at_ 1) (.cells zC.toArray tE)
  have q0' := past q0 (.cells #[.int .i64 0, .string ⟨#[]⟩, .int .i64 0] tRT)
  have q1' := past q1 (.cells #[.int .i64 0, .string ⟨#[]⟩, .int .i64 0] tRT)
  have x0' := past (past x0 (.cells zC.toArray tE)) (.cells #[.int .i64 0, .string ⟨#[]⟩, .int .i64 0] tRT)
  have x1' := past (past x1 (.cells zC.toArray tE)) (.cells #[.int .i64 0, .string ⟨#[]⟩, .int .i64 0] tRT)
  have x2' := past (past x2 (.cells zC.toArray tE)) (.cells #[.int .i64 0, .string ⟨#[]⟩, .int .i64 0] tRT)
  have y0 := past x0 (.cells zC.toArray tE)
  have y1 := past x1 (.cells zC.toArray tE)
  have y2 := past x2 (.cells zC.toArray tE)
  obtain ⟨W1, hW1⟩ : ∃ W1, ((w.alloc (.cells zC.toArray tE)).alloc (.cells #[.int .i64 k, .string (Ep.txt l), .int .i64 a] tRT)).drew = W1 := ⟨_, rfl⟩
  have hb1 : Below w.heap.size w W1 := hW1 ▸ (al (al (Below.refl _ _) _) _).drew
  have hM1 : Omid w W1 B k (Ep.txt l) a := by
    refine ⟨?_, ?_, Oth.of hb1 (Nat.le_of_lt hB), ?_⟩
    · rw [← hW1]; exact (Cel.new w tE _ rfl).alloc _
    · rw [← hW1]; exact Cel.new (w.alloc _) tRT _ (by simp)
    · rw [← hW1]; simp
  have HM1 := Lib.hid hM1
  have HZ1 := Lib.hid (h.below hb1)
  have u0 : W1.cell? ⟨w.heap.size + 1, 0, none⟩ = some (.int .i64 k) := hM1.c3.at_ 0
  have u1 : W1.cell? ⟨w.heap.size + 1, 1, none⟩ = some (.string (Ep.txt l)) := hM1.c3.at_ 1
  have u2 : W1.cell? ⟨w.heap.size + 1, 2, none⟩ = some (.int .i64 a) := hM1.c3.at_ 2
  have HB := Lib.hid hB
  have hnb0 : ¬ B = w.heap.size := by omega
  have hnb1 : ¬ B = w.heap.size + 1 := by omega
  have hnb2 : ¬ w.heap.size + 1 = B := by omega
  have hnv : ¬ l = Val.wTrue ∧ ¬ l = Val.wFalse ∧ ¬ l = Val.wNull ∧ k ≠ 3 ∧ k ≠ 4 := by
    rw [htk] at hv
    unfold isVal toTt at hv
    simp only [Bool.or_eq_false_iff, beq_eq_false_iff_ne] at hv
    refine ⟨hv.1.1.2, hv.1.2, hv.2, fun e => hv.1.1.1.1 (by omega), fun e => hv.1.1.1.2 (by omega)⟩
  have s1 : ((Ep.txt l).toList == [84, 82, 85, 69]) = false := text_no hnv.1
  have s2 : ((Ep.txt l).toList == [70, 65, 76, 83, 69]) = false := text_no hnv.2.1
  have s3 : ((Ep.txt l).toList == [78, 85, 76, 76]) = false := text_no hnv.2.2.1
  have hk1 : (k == 1) = false := beq_no fun e => h1 (by rw [htk]; show k.toNat = 1; omega)
  have hk5 : (k == 5) = false := beq_no fun e => h5 (by rw [htk]; show k.toNat = 5; omega)
  have hk3 : (k == 3) = false := beq_no hnv.2.2.2.1
  have hk4 : (k == 4) = false := beq_no hnv.2.2.2.2
  obtain ⟨R, hR⟩ : ∃ R, oneP (Ts L) (N + 1) p = R := ⟨_, rfl⟩
  rw [hR] at h99 ⊢
  rw [oneP, if_neg (by simp [hv]), if_neg h1, if_neg h5, if_neg (by simp [hnCOAL]), if_neg (by simp [hnLEN]), if_pos hy] at hR
  have h992 := no99_bind (fun q' => by rw [hR]; exact h99 q')
  have hp1 : p + 1 < L.length := by have := hL.2.2.isT (by rw [Ts_len]; exact hp) hy; rwa [Ts_len] at this
  have HNCOAL := Lib.hid (show ∀ W, Rz W B (.slice (some ⟨b, o, none⟩) n c) p 0 → Oth B w W → Calls Tryz.prog 40 #[pV B, .string ⟨#[67, 79, 65, 76, 69, 83, 67, 69]⟩] W fun r w' => r = .returned (.bool false) ∧ Rz w' B (.slice (some ⟨b, o, none⟩) n c) p 0 ∧ Oth B W w' from fun W hW hb => have_not hW (HE.out.oth hb) hL hn hp (k := kCOAL) (.inr hnCOAL))
  have HNLEN := Lib.hid (show ∀ W, Rz W B (.slice (some ⟨b, o, none⟩) n c) p 0 → Oth B w W → Calls Tryz.prog 40 #[pV B, .string ⟨#[76, 69, 78, 71, 84, 72]⟩] W fun r w' => r = .returned (.bool false) ∧ Rz w' B (.slice (some ⟨b, o, none⟩) n c) p 0 ∧ Oth B W w' from fun W hW hb => have_not hW (HE.out.oth hb) hL hn hp (k := kLEN) (.inr hnLEN))
  have HYABS := Lib.hid (show ∀ W, Rz W B (.slice (some ⟨b, o, none⟩) n c) p 0 → Oth B w W → Calls Tryz.prog 40 #[pV B, .string ⟨#[65, 66, 83]⟩] W fun r w' => r = .returned (.bool true) ∧ Rz w' B (.slice (some ⟨b, o, none⟩) n c) (p + 1) 0 ∧ Oth B W w' from fun W hW hb => have_is hW (HE.out.oth hb) hL hn hp rfl (k := kABS) hy)
  have HLI := Lib.hid (show ∀ W, Rz W B (.slice (some ⟨b, o, none⟩) n c) (p + 1) 0 → Oth B w W → Calls Tryz.prog 62 #[pV B, .int .i64 1] W (GivesL W B (.slice (some ⟨b, o, none⟩) n c) (listP (Ts L) N 1 (p + 1))) from fun W hW hb => hlist.got hW (HE.out.oth hb) hp1 rfl h992)
  have HR := Lib.hid hR
  have HPN := Lib.hid hpn
  clear hL hv hvc hR h1 h5 hnv hy hlist h99 h992 hp1 hnCOAL hnLEN h hE hx hn hb1 hM1 hVA x0 x1 x2 hk0 hat hrd hkind htx htk
  go_enter Tryz.func42, Tryz.ntmps42
  go_wp2
  go_region
  go_wp2_with (first
    | (go_at_call 63; (refine (HVA.out _).mono ?_); rintro e' w2 ⟨rfl, hb⟩; have hb3 := al (Below.refl w2.heap.size w2) (.cells #[.int .i64 rk, .int .i64 rn, .string (Ep.txt rs)] 29); obtain ⟨W2, hW2⟩ : ∃ W2, w2.alloc (.cells #[.int .i64 rk, .int .i64 rn, .string (Ep.txt rs)] 29) = W2 := ⟨_, rfl⟩; rw [hW2] at hb3; have hne : ¬ B = w2.heap.size := (by have := (HM1.out.bel HB.out hb).lt; have := HB.out; omega); have hne' : ¬ w2.heap.size = B := fun e => hne e.symm; have M := (HM1.out.bel HB.out hb).bel HB.out hb3; have H2 := Lib.hid M; have hz2 := (HZ1.out.below hb).below hb3; have H3 := Lib.hid hz2; have hv4 : Cel W2 w2.heap.size 29 #[.int .i64 rk, .int .i64 rn, .string (Ep.txt rs)] := hW2 ▸ Cel.new w2 _ _ rfl; have i0 := hv4.at_ 0; have i1 := hv4.at_ 1; have i2 := hv4.at_ 2; have j0 := M.c3.at_ 0; have j1 := M.c3.at_ 1; have z1 := hz2.at_ 1; have z2 := hz2.at_ 2; have g1 := hz2.open_ 1; have g2 := hz2.open_ 2; have b0 := M.c2.at_ 0; have b1 := M.c2.at_ 1; have b2 := M.c2.at_ 2; have b3 := M.c2.at_ 3; have b4 := M.c2.at_ 4; have b5 := M.c2.at_ 5; have b6 := M.c2.at_ 6; have f4 := fun i => M.c2.open_ i; clear hb hb3 M hz2 hv4)
    | (go_at_call_of 40 (Value.string ⟨#[67, 79, 65, 76, 69, 83, 67, 69]⟩); (refine (HNCOAL.out _ H3.out H2.out.oth).mono ?_); rintro e' w4 ⟨rfl, hz, ho⟩; have H4 := Lib.hid (H2.out.next HB.out ho); have H5 := Lib.hid hz; clear hz ho)
    | (go_at_call_of 40 (Value.string ⟨#[76, 69, 78, 71, 84, 72]⟩); (refine (HNLEN.out _ H5.out H4.out.oth).mono ?_); rintro e' w5 ⟨rfl, hz, ho⟩; have H6 := Lib.hid (H4.out.next HB.out ho); have H7 := Lib.hid hz; clear hz ho)
    | (go_at_call_of 40 (Value.string ⟨#[65, 66, 83]⟩); (refine (HYABS.out _ H7.out H6.out.oth).mono ?_); rintro e' w6 ⟨rfl, hz, ho⟩; have H8 := Lib.hid (H6.out.next HB.out ho); have H9 := Lib.hid hz; clear hz ho)
    | (go_at_call 62; (refine (HLI.out _ H9.out H8.out.oth).mono ?_); rintro e' w9 ⟨ys, g5, m5, c5, q5, e5, rfl, -, -, -, hol, hz, hg, ho⟩; have H10 := Lib.hid (And.intro hol (And.intro hz (And.intro hg ho))); have M := H8.out.next HB.out ho; have b0 := M.c2.at_ 0; have b1 := M.c2.at_ 1; have b2 := M.c2.at_ 2; have b3 := M.c2.at_ 3; have b4 := M.c2.at_ 4; have b5 := M.c2.at_ 5; have b6 := M.c2.at_ 6; have f4 := fun i => M.c2.open_ i; clear M hol hz hg ho))
  (try simp only [Exit.inBlock, Exit.then])
  refine bodyPost_ret (v := .agg #[.int .i64 7, .int .i64 0, .int .i64 0, .int .i64 0, .string ⟨#[]⟩, .string ⟨#[97, 98, 115]⟩, .slice (some ⟨g5, 0, none⟩) m5 c5]) ?_ rfl ?_
  · simp only [results, Tryz.f42]
    go_simp
  exact gives_call HB.out H8.out.lt H8.out.oth nAbs H10.out.1 H10.out.2.1 H10.out.2.2.1 HR.out H10.out.2.2.2
end Go.Proofs.YtlkmhdbmcfblkaaGreatDoor.Ep
/- The document's parser reads what holds together most: parameters, brackets; the whole. -/
namespace Go.Proofs.YtlkmhdbmcfblkaaGreatDoor.Ep
open Go.RowKit Go.Proofs.YtlkmhdbmcfblkaaGreatDoor.Mem Go.Proofs.YtlkmhdbmcfblkaaGreatDoor.Right Go.Proofs.YtlkmhdbmcfblkaaGreatDoor.Lx Go.Deep
set_option linter.unusedVariables false

set_option maxRecDepth 100000 in
set_option maxHeartbeats 4000000 in
theorem oneR_par {B n c N : Nat} {A : Option Addr} {L : List To} (hL : Rts L) (hn : n = L.length) {w : World} {p : Nat} (h : Rz w B (.slice A n c) p 0) (hE : ToksIn w (fun b => b < B) A L) (hp : p < L.length) (hv : isVal (tk (Ts L) p) = false) (h5 : (tk (Ts L) p).1 = 5) : Calls Tryz.prog 42 #[pV B] w (Gives w B (.slice A n c) (oneP (Ts L) (N + 1) p)) := by
  obtain ⟨x, hx⟩ := to_some hp
  have hp1 : p ≤ 1000 := by have := hL.1; omega
  have hrt := (hL.2.2.2 p (by rw [Ts_len]; exact hp)).1
  obtain ⟨ch, hch, hc1, hc2⟩ := par_form hrt h5
  obtain ⟨hat, hk0, hkind⟩ := right_kind (hL.at_ hx).1
  have htx := (hL.at_ hx).2
  have hB := h.lt
  have hVA := value09_any x (hL.at_ hx).1 htx
  obtain ⟨⟨rk, rn, rs, re⟩, hrd⟩ : ∃ g, valR x = g := ⟨_, rfl⟩
  rw [hrd] at hVA
  obtain ⟨b, o, hA, hpn, x0, x1, x2⟩ := h.tok hE hx hn
  have hvc := fun hv => val_cases (hL.at_ hx).1 hv
  have htk := tk_at hx
  obtain ⟨k, l, a⟩ := x
  subst hA
  replace hkind : k = (kindOf l : Int) := hkind
  have HVA := Lib.hid (show ∀ W, Calls Tryz.prog 63 #[.agg #[.int .i64 k, .string (Ep.txt l), .int .i64 a]] W fun e w' => e = .returned (.tuple #[.agg #[.int .i64 rk, .int .i64 rn, .string (Ep.txt rs)], .int .i64 re]) ∧ Below W.heap.size W w' from hVA)
  have q0 := past (h.at_ 0) (.cells zC.toArray tE)
  have q1 := past (h.at_ 1) (.cells zC.toArray tE)
  have q0' := past q0 (.cells #[.int .i64 0, .string ⟨#[]⟩, .int .i64 0] tRT)
  have q1' := past q1 (.cells #[.int .i64 0, .string ⟨#[]⟩, .int .i64 0] tRT)
  have x0' := past (past x0 (.cells zC.toArray tE)) (.cells #[.int .i64 0, .string ⟨#[]⟩, .int .i64 0] tRT)
  have x1' := past (past x1 (.cells zC.toArray tE)) (.cells #[.int .i64 0, .string ⟨#[]⟩, .int .i64 0] tRT)
  have x2' := past (past x2 (.cells zC.toArray tE)) (.cells #[.int .i64 0, .string ⟨#[]⟩, .int .i64 0] tRT)
  have y0 := past x0 (.cells zC.toArray tE)
  have y1 := past x1 (.cells zC.toArray tE)
  have y2 := past x2 (.cells zC.toArray tE)
  obtain ⟨W1, hW1⟩ : ∃ W1, ((w.alloc (.cells zC.toArray tE)).alloc (.cells #[.int .i64 k, .string (Ep.txt l), .int .i64 a] tRT)).drew = W1 := ⟨_, rfl⟩
  have hb1 : Below w.heap.size w W1 := hW1 ▸ (al (al (Below.refl _ _) _) _).drew
  have hM1 : Omid w W1 B k (Ep.txt l) a := by
    refine ⟨?_, ?_, Oth.of hb1 (Nat.le_of_lt hB), ?_⟩
    · rw [← hW1]; exact (Cel.new w tE _ rfl).alloc _
    · rw [← hW1]; exact Cel.new (w.alloc _) tRT _ (by simp)
    · rw [← hW1]; simp
  have HM1 := Lib.hid hM1
  have HZ1 := Lib.hid (h.below hb1)
  have u0 : W1.cell? ⟨w.heap.size + 1, 0, none⟩ = some (.int .i64 k) := hM1.c3.at_ 0
  have u1 : W1.cell? ⟨w.heap.size + 1, 1, none⟩ = some (.string (Ep.txt l)) := hM1.c3.at_ 1
  have u2 : W1.cell? ⟨w.heap.size + 1, 2, none⟩ = some (.int .i64 a) := hM1.c3.at_ 2
  have HB := Lib.hid hB
  have hnb0 : ¬ B = w.heap.size := by omega
  have hnb1 : ¬ B = w.heap.size + 1 := by omega
  have hnb2 : ¬ w.heap.size + 1 = B := by omega
  rw [htk] at hch
  replace hch : l = [36, ch] := hch
  have hR : oneP (Ts L) (N + 1) p = .ok (par ((ch.toNat : Int) - 48)) (p + 1) := by
    rw [oneP, if_neg (by simp [hv]), if_neg (by rw [h5]; decide), if_pos h5, htk]
    show Res.ok (par (((l.getD 1 0).toNat : Int) - 48)) (p + 1) = _
    rw [hch]; rfl
  rw [hR]
  have hnv : ¬ l = Val.wTrue ∧ ¬ l = Val.wFalse ∧ ¬ l = Val.wNull ∧ k ≠ 3 ∧ k ≠ 4 := by
    rw [htk] at hv
    unfold isVal toTt at hv
    simp only [Bool.or_eq_false_iff, beq_eq_false_iff_ne] at hv
    refine ⟨hv.1.1.2, hv.1.2, hv.2, fun e => hv.1.1.1.1 (by omega), fun e => hv.1.1.1.2 (by omega)⟩
  have s1 : ((Ep.txt l).toList == [84, 82, 85, 69]) = false := text_no hnv.1
  have s2 : ((Ep.txt l).toList == [70, 65, 76, 83, 69]) = false := text_no hnv.2.1
  have s3 : ((Ep.txt l).toList == [78, 85, 76, 76]) = false := text_no hnv.2.2.1
  have hk5 : k = 5 := by rw [htk] at h5; have h5 : k.toNat = 5 := h5; omega
  clear hL hv hvc hR h5 hnv hrt h hE hx hn hb1 hM1 hVA x0 x1 x2 hk0 hat hrd hkind htx htk
  subst hk5 hch
  have e1 : (Ep.txt [36, ch]).size = 2 := rfl
  have v0 : ∀ h, (Ep.txt [36, ch])[1]'h = ch := fun _ => rfl
  go_enter Tryz.func42, Tryz.ntmps42
  go_wp2
  go_region
  go_wp2_with (go_at_call 63; (refine (HVA.out _).mono ?_); rintro e' w2 ⟨rfl, hb⟩; have hb3 := al (Below.refl w2.heap.size w2) (.cells #[.int .i64 rk, .int .i64 rn, .string (Ep.txt rs)] 29); obtain ⟨W2, hW2⟩ : ∃ W2, w2.alloc (.cells #[.int .i64 rk, .int .i64 rn, .string (Ep.txt rs)] 29) = W2 := ⟨_, rfl⟩; rw [hW2] at hb3; have hne : ¬ B = w2.heap.size := (by have := (HM1.out.bel HB.out hb).lt; have := HB.out; omega); have hne' : ¬ w2.heap.size = B := fun e => hne e.symm; have M := (HM1.out.bel HB.out hb).bel HB.out hb3; have H2 := Lib.hid M; have hz2 := (HZ1.out.below hb).below hb3; have H3 := Lib.hid hz2; have hv4 : Cel W2 w2.heap.size 29 #[.int .i64 rk, .int .i64 rn, .string (Ep.txt rs)] := hW2 ▸ Cel.new w2 _ _ rfl; have i0 := hv4.at_ 0; have i1 := hv4.at_ 1; have i2 := hv4.at_ 2; have j0 := M.c3.at_ 0; have j1 := M.c3.at_ 1; have z1 := hz2.at_ 1; have z2 := hz2.at_ 2; have g1 := hz2.open_ 1; have g2 := hz2.open_ 2; have b0 := M.c2.at_ 0; have b1 := M.c2.at_ 1; have b2 := M.c2.at_ 2; have b3 := M.c2.at_ 3; have b4 := M.c2.at_ 4; have b5 := M.c2.at_ 5; have b6 := M.c2.at_ 6; have f4 := fun i => M.c2.open_ i; clear hb hb3 M hz2 hv4)
  (try simp only [Exit.inBlock, Exit.then])
  refine bodyPost_ret (v := .agg #[.int .i64 3, .int .i64 ((ch.toNat : Int) - 48), .int .i64 0, .int .i64 0, .string ⟨#[]⟩, .string ⟨#[]⟩, .slice none 0 0]) ?_ rfl ?_
  · simp only [results, Tryz.f42]
    go_simp
  exact gives_leaf HB.out 3 ((ch.toNat : Int) - 48) 0 0 [] [] H3.out H2.out.oth ⟨rfl, rfl, rfl⟩
set_option maxRecDepth 100000 in
set_option maxHeartbeats 4000000 in
theorem oneR_brk {B n c N : Nat} {A : Option Addr} {L : List To} (hL : Rts L) (hn : n = L.length) {w : World} {p : Nat} (h : Rz w B (.slice A n c) p 0) (hE : ToksIn w (fun b => b < B) A L) (hp : p < L.length) (hv : isVal (tk (Ts L) p) = false) (h1 : (tk (Ts L) p).1 ≠ 1) (h5 : (tk (Ts L) p).1 ≠ 5) (hnCOAL : isT (Ts L) p kCOAL = false) (hnLEN : isT (Ts L) p kLEN = false) (hnABS : isT (Ts L) p kABS = false) (hrank : ReadsR 24 #[pV B, .int .i64 1] B A n c L (fun p => rankP (Ts L) N 1 p)) (h99 : ∀ q, oneP (Ts L) (N + 1) p ≠ .err 99 q) : Calls Tryz.prog 42 #[pV B] w (Gives w B (.slice A n c) (oneP (Ts L) (N + 1) p)) := by
  obtain ⟨R, hR⟩ : ∃ R, oneP (Ts L) (N + 1) p = R := ⟨_, rfl⟩
  rw [hR] at h99 ⊢
  rw [oneP, if_neg (by simp [hv]), if_neg h1, if_neg h5, if_neg (by simp [hnCOAL]), if_neg (by simp [hnLEN]), if_neg (by simp [hnABS])] at hR
  obtain ⟨q7, e7, hm1, hrk⟩ : ∃ (q7 : Nat) (e7 : Int), (∀ W, Rz W B (.slice A n c) p 0 → Oth B w W → Calls Tryz.prog 61 #[pV B, .string ⟨#[40]⟩] W fun r w' => r = .returned (.tuple #[]) ∧ Rz w' B (.slice A n c) q7 e7 ∧ Oth B W w') ∧
      ∀ W, Rz W B (.slice A n c) q7 e7 → Oth B w W → Calls Tryz.prog 24 #[pV B, .int .i64 1] W fun r w' => ∃ (y : Ex) (k' o vk vn : Int) (vs nm : ByteArray) (A1 : Option Addr) (m1 c1 q8 : Nat) (e8 : Int), r = .returned (.agg #[.int .i64 k', .int .i64 o, .int .i64 vk, .int .i64 vn, .string vs, .string nm, .slice A1 m1 c1]) ∧ ExIn w' (fun b => W.heap.size ≤ b ∧ b < w'.heap.size) y [.int .i64 k', .int .i64 o, .int .i64 vk, .int .i64 vn, .string vs, .string nm, .slice A1 m1 c1] ∧ Rz w' B (.slice A n c) q8 e8 ∧ (∃ (q9 : Nat) (e9 : Int), GotR R y q9 e9 ∧ ∀ W, Rz W B (.slice A n c) q8 e8 → Oth B w W → Calls Tryz.prog 61 #[pV B, .string ⟨#[41]⟩] W fun r w' => r = .returned (.tuple #[]) ∧ Rz w' B (.slice A n c) q9 e9 ∧ Oth B W w') ∧ Oth B W w' := by
    cases ht : isT (Ts L) p [40] with
    | false =>
      rw [ht, if_neg (by decide)] at hR
      refine ⟨p, 16, fun W hW hb => mustR_not hW (hE.oth hb) hL hn hp (k := [40]) (.inr ht), fun W hW hb => ?_⟩
      refine (rank_bad hW (by decide) 1).mono ?_
      rintro r w' ⟨rfl, h1, h2⟩
      refine ⟨exZ, 0, 0, 0, 0, ⟨#[]⟩, ⟨#[]⟩, none, 0, 0, p, 16, rfl, zC_in _ _, h1, ⟨p, 16, by rw [← hR]; exact ⟨rfl, rfl, by decide⟩, fun W hW hb => ?_⟩, h2⟩
      exact mustR_not hW (hE.oth hb) hL hn hp (k := [41]) (.inl (by decide))
    | true =>
      rw [ht, if_pos rfl] at hR
      have hp1 : p + 1 < L.length := by have := hL.2.2.isT (by rw [Ts_len]; exact hp) ht; rwa [Ts_len] at this
      have h99' := no99_bind (fun q' => by rw [hR]; exact h99 q')
      have hin := (inner hL.2.2 N).rank 1 (p + 1) (by rw [Ts_len]; exact hp1)
      refine ⟨p + 1, 0, fun W hW hb => mustR_is hW (hE.oth hb) hL hn hp rfl (k := [40]) ht, fun W hW hb => ?_⟩
      refine (hrank.got hW (hE.oth hb) hp1 rfl h99').mono ?_
      rintro r w' ⟨y, k', o, vk, vn, vs, nm, A1, m1, c1, q, e, rfl, hx, hz, hg, ho⟩
      have hq := hg.lt hin h99'
      refine ⟨y, k', o, vk, vn, vs, nm, A1, m1, c1, q, e, rfl, hx, hz, ?_, ho⟩
      cases h1 : rankP (Ts L) N 1 (p + 1) with
      | ok y' s =>
        rw [h1] at hg hR
        obtain ⟨rfl, rfl, rfl⟩ := hg
        replace hR : (if isT (Ts L) q [41] = true then Res.ok y (q + 1) else .err 16 q) = R := hR
        cases ht2 : isT (Ts L) q [41] with
        | true =>
          rw [ht2, if_pos rfl] at hR
          exact ⟨q + 1, 0, by rw [← hR]; exact ⟨rfl, rfl, rfl⟩, fun W hW hb => mustR_is hW (hE.oth hb) hL hn hq rfl (k := [41]) ht2⟩
        | false =>
          rw [ht2, if_neg (by decide)] at hR
          exact ⟨q, 16, by rw [← hR]; exact ⟨rfl, rfl, by decide⟩, fun W hW hb => mustR_not hW (hE.oth hb) hL hn hq (k := [41]) (.inr ht2)⟩
      | err c0 s =>
        rw [h1] at hg hR
        obtain ⟨rfl, rfl, h0⟩ := hg
        refine ⟨q, e, by rw [← hR]; exact ⟨rfl, rfl, h0⟩, fun W hW hb => ?_⟩
        have := mustR_not hW (hE.oth hb) hL hn hq (k := [41]) (.inl h0)
        rwa [if_neg h0] at this
  obtain ⟨x, hx⟩ := to_some hp
  have HE := Lib.hid hE
  have HMU1 := Lib.hid hm1
  have HRK := Lib.hid hrk
  clear hm1 hrk hR h99 hrank
  obtain ⟨hat, hk0, hkind⟩ := right_kind (hL.at_ hx).1
  have htx := (hL.at_ hx).2
  have hB := h.lt
  have hVA := value09_any x (hL.at_ hx).1 htx
  obtain ⟨⟨rk, rn, rs, re⟩, hrd⟩ : ∃ g, valR x = g := ⟨_, rfl⟩
  rw [hrd] at hVA
  obtain ⟨b, o, hA, hpn, x0, x1, x2⟩ := h.tok hE hx hn
  have hvc := fun hv => val_cases (hL.at_ hx).1 hv
  have htk := tk_at hx
  obtain ⟨k, l, a⟩ := x
  subst hA
  replace hkind : k = (kindOf l : Int) := hkind
  have HVA := Lib.hid (show ∀ W, Calls Tryz.prog 63 #[.agg #[.int .i64 k, .string (Ep.txt l), .int .i64 a]] W fun e w' => e = .returned (.tuple #[.agg #[.int .i64 rk, .int .i64 rn, .string (Ep.txt rs)], .int .i64 re]) ∧ Below W.heap.size W w' from hVA)
  have q0 := past (h.at_ 0) (.cells zC.toArray tE)
  have q1 := past (h.at_ 1) (.cells zC.toArray tE)
  have q0' := past q0 (.cells #[.int .i64 0, .string ⟨#[]⟩, .int .i64 0] tRT)
  have q1' := past q1 (.cells #[.int .i64 0, .string ⟨#[]⟩, .int .i64 0] tRT)
  have x0' := past (past x0 (.cells zC.toArray tE)) (.cells #[.int .i64 0, .string ⟨#[]⟩, .int .i64 0] tRT)
  have x1' := past (past x1 (.cells zC.toArray tE)) (.cells #[.int .i64 0, .string ⟨#[]⟩, .int .i64 0] tRT)
  have x2' := past (past x2 (.cells zC.toArray tE)) (.cells #[.int .i64 0, .string ⟨#[]⟩, .int .i64 0] tRT)
  have y0 := past x0 (.cells zC.toArray tE)
  have y1 := past x1 (.cells zC.toArray tE)
  have y2 := past x2 (.cells zC.toArray tE)
  obtain ⟨W1, hW1⟩ : ∃ W1, ((w.alloc (.cells zC.toArray tE)).alloc (.cells #[.int .i64 k, .string (Ep.txt l), .int .i64 a] tRT)).drew = W1 := ⟨_, rfl⟩
  have hb1 : Below w.heap.size w W1 := hW1 ▸ (al (al (Below.refl _ _) _) _).drew
  have hM1 : Omid w W1 B k (Ep.txt l) a := by
    refine ⟨?_, ?_, Oth.of hb1 (Nat.le_of_lt hB), ?_⟩
    · rw [← hW1]; exact (Cel.new w tE _ rfl).alloc _
    · rw [← hW1]; exact Cel.new (w.alloc _) tRT _ (by simp)
    · rw [← hW1]; simp
  have HM1 := Lib.hid hM1
  have HZ1 := Lib.hid (h.below hb1)
  have u0 : W1.cell? ⟨w.heap.size + 1, 0, none⟩ = some (.int .i64 k) := hM1.c3.at_ 0
  have u1 : W1.cell? ⟨w.heap.size + 1, 1, none⟩ = some (.string (Ep.txt l)) := hM1.c3.at_ 1
  have u2 : W1.cell? ⟨w.heap.size + 1, 2, none⟩ = some (.int .i64 a) := hM1.c3.at_ 2
  have HB := Lib.hid hB
  have hnb0 : ¬ B = w.heap.size := by omega
  have hnb1 : ¬ B = w.heap.size + 1 := by omega
  have hnb2 : ¬ w.heap.size + 1 = B := by omega
  have hnv : ¬ l = Val.wTrue ∧ ¬ l = Val.wFalse ∧ ¬ l = Val.wNull ∧ k ≠ 3 ∧ k ≠ 4 := by
    rw [htk] at hv
    unfold isVal toTt at hv
    simp only [Bool.or_eq_false_iff, beq_eq_false_iff_ne] at hv
    refine ⟨hv.1.1.2, hv.1.2, hv.2, fun e => hv.1.1.1.1 (by omega), fun e => hv.1.1.1.2 (by omega)⟩
  have s1 : ((Ep.txt l).toList == [84, 82, 85, 69]) = false := text_no hnv.1
  have s2 : ((Ep.txt l).toList == [70, 65, 76, 83, 69]) = false := text_no hnv.2.1
  have s3 : ((Ep.txt l).toList == [78, 85, 76, 76]) = false := text_no hnv.2.2.1
  have hk1 : (k == 1) = false := beq_no fun e => h1 (by rw [htk]; show k.toNat = 1; omega)
  have hk5 : (k == 5) = false := beq_no fun e => h5 (by rw [htk]; show k.toNat = 5; omega)
  have hk3 : (k == 3) = false := beq_no hnv.2.2.2.1
  have hk4 : (k == 4) = false := beq_no hnv.2.2.2.2
  have HNCOAL := Lib.hid (show ∀ W, Rz W B (.slice (some ⟨b, o, none⟩) n c) p 0 → Oth B w W → Calls Tryz.prog 40 #[pV B, .string ⟨#[67, 79, 65, 76, 69, 83, 67, 69]⟩] W fun r w' => r = .returned (.bool false) ∧ Rz w' B (.slice (some ⟨b, o, none⟩) n c) p 0 ∧ Oth B W w' from fun W hW hb => have_not hW (HE.out.oth hb) hL hn hp (k := kCOAL) (.inr hnCOAL))
  have HNLEN := Lib.hid (show ∀ W, Rz W B (.slice (some ⟨b, o, none⟩) n c) p 0 → Oth B w W → Calls Tryz.prog 40 #[pV B, .string ⟨#[76, 69, 78, 71, 84, 72]⟩] W fun r w' => r = .returned (.bool false) ∧ Rz w' B (.slice (some ⟨b, o, none⟩) n c) p 0 ∧ Oth B W w' from fun W hW hb => have_not hW (HE.out.oth hb) hL hn hp (k := kLEN) (.inr hnLEN))
  have HNABS := Lib.hid (show ∀ W, Rz W B (.slice (some ⟨b, o, none⟩) n c) p 0 → Oth B w W → Calls Tryz.prog 40 #[pV B, .string ⟨#[65, 66, 83]⟩] W fun r w' => r = .returned (.bool false) ∧ Rz w' B (.slice (some ⟨b, o, none⟩) n c) p 0 ∧ Oth B W w' from fun W hW hb => have_not hW (HE.out.oth hb) hL hn hp (k := kABS) (.inr hnABS))
  have HPN := Lib.hid hpn
  clear hL hv hvc h1 h5 hnv hnCOAL hnLEN hnABS h hE hx hn hb1 hM1 hVA x0 x1 x2 hk0 hat hrd hkind htx htk
  go_enter Tryz.func42, Tryz.ntmps42
  go_wp2
  go_region
  go_wp2_with (first
    | (go_at_call 63; (refine (HVA.out _).mono ?_); rintro e' w2 ⟨rfl, hb⟩; have hb3 := al (Below.refl w2.heap.size w2) (.cells #[.int .i64 rk, .int .i64 rn, .string (Ep.txt rs)] 29); obtain ⟨W2, hW2⟩ : ∃ W2, w2.alloc (.cells #[.int .i64 rk, .int .i64 rn, .string (Ep.txt rs)] 29) = W2 := ⟨_, rfl⟩; rw [hW2] at hb3; have hne : ¬ B = w2.heap.size := (by have := (HM1.out.bel HB.out hb).lt; have := HB.out; omega); have hne' : ¬ w2.heap.size = B := fun e => hne e.symm; have M := (HM1.out.bel HB.out hb).bel HB.out hb3; have H2 := Lib.hid M; have hz2 := (HZ1.out.below hb).below hb3; have H3 := Lib.hid hz2; have hv4 : Cel W2 w2.heap.size 29 #[.int .i64 rk, .int .i64 rn, .string (Ep.txt rs)] := hW2 ▸ Cel.new w2 _ _ rfl; have i0 := hv4.at_ 0; have i1 := hv4.at_ 1; have i2 := hv4.at_ 2; have j0 := M.c3.at_ 0; have j1 := M.c3.at_ 1; have z1 := hz2.at_ 1; have z2 := hz2.at_ 2; have g1 := hz2.open_ 1; have g2 := hz2.open_ 2; have b0 := M.c2.at_ 0; have b1 := M.c2.at_ 1; have b2 := M.c2.at_ 2; have b3 := M.c2.at_ 3; have b4 := M.c2.at_ 4; have b5 := M.c2.at_ 5; have b6 := M.c2.at_ 6; have f4 := fun i => M.c2.open_ i; clear hb hb3 M hz2 hv4)
    | (go_at_call_of 40 (Value.string ⟨#[67, 79, 65, 76, 69, 83, 67, 69]⟩); (refine (HNCOAL.out _ H3.out H2.out.oth).mono ?_); rintro e' w4 ⟨rfl, hz, ho⟩; have H4 := Lib.hid (H2.out.next HB.out ho); have H5 := Lib.hid hz; clear hz ho)
    | (go_at_call_of 40 (Value.string ⟨#[76, 69, 78, 71, 84, 72]⟩); (refine (HNLEN.out _ H5.out H4.out.oth).mono ?_); rintro e' w5 ⟨rfl, hz, ho⟩; have H6 := Lib.hid (H4.out.next HB.out ho); have H7 := Lib.hid hz; clear hz ho)
    | (go_at_call_of 40 (Value.string ⟨#[65, 66, 83]⟩); (refine (HNABS.out _ H7.out H6.out.oth).mono ?_); rintro e' w6 ⟨rfl, hz, ho⟩; have H8 := Lib.hid (H6.out.next HB.out ho); have H9 := Lib.hid hz; clear hz ho)
    | (go_at_call_of 61 (Value.string ⟨#[40]⟩); (refine (HMU1.out _ H9.out H8.out.oth).mono ?_); rintro e' w7 ⟨rfl, hz, ho⟩; have H10 := Lib.hid (H8.out.next HB.out ho); have H11 := Lib.hid hz; clear hz ho)
    | (go_at_call 24; (refine (HRK.out _ H11.out H10.out.oth).mono ?_); rintro e' w8 ⟨y, k', o, vk, vn, vs, nm, A1, m1, c1, q8, e8, rfl, hy, hz, hmu, ho⟩; have hb9 := al (Below.refl w8.heap.size w8) (.cells #[.int .i64 k', .int .i64 o, .int .i64 vk, .int .i64 vn, .string vs, .string nm, .slice A1 m1 c1] tE); have H12 := Lib.hid (H10.out.next HB.out ho); have hM13 := H12.out.bel HB.out hb9; have H13 := Lib.hid hM13; have hlt10 := H10.out.lt; have hlt12 := H12.out.lt; have H14 := Lib.hid (show ExIn (w8.alloc (.cells #[.int .i64 k', .int .i64 o, .int .i64 vk, .int .i64 vn, .string vs, .string nm, .slice A1 m1 c1] tE)) (fun b => w.heap.size < b ∧ b < (w8.alloc (.cells #[.int .i64 k', .int .i64 o, .int .i64 vk, .int .i64 vn, .string vs, .string nm, .slice A1 m1 c1] tE)).heap.size) y [.int .i64 k', .int .i64 o, .int .i64 vk, .int .i64 vn, .string vs, .string nm, .slice A1 m1 c1] from ExIn.to (fun b hb => ⟨by omega, by simp; omega⟩) (fun p hp => hb9.cell (p := p) hp.2) _ _ hy); have H15 := Lib.hid (hz.below hb9); have H16 := Lib.hid hmu; have hc6 : Cel (w8.alloc (.cells #[.int .i64 k', .int .i64 o, .int .i64 vk, .int .i64 vn, .string vs, .string nm, .slice A1 m1 c1] tE)) w8.heap.size tE #[.int .i64 k', .int .i64 o, .int .i64 vk, .int .i64 vn, .string vs, .string nm, .slice A1 m1 c1] := Cel.new w8 _ _ rfl; have H17 := Lib.hid (And.intro hc6 (show B ≠ w8.heap.size from by have := HB.out; omega)); clear hy hz hmu ho hb9 hM13 hlt10 hlt12 hc6)
    | (go_at_call_of 61 (Value.string ⟨#[41]⟩); obtain ⟨q9, e9, hg9, hm9⟩ := H16.out; (refine (hm9 _ H15.out H13.out.oth).mono ?_); rintro e' w9 ⟨rfl, hz, ho⟩; have M := H13.out.next HB.out ho; have H18 := Lib.hid M; have H19 := Lib.hid hz; have H20 := Lib.hid hg9; have H21 := Lib.hid ho; have b0 := M.c2.at_ 0; have b1 := M.c2.at_ 1; have b2 := M.c2.at_ 2; have b3 := M.c2.at_ 3; have b4 := M.c2.at_ 4; have b5 := M.c2.at_ 5; have b6 := M.c2.at_ 6; have f4 := fun i => M.c2.open_ i; have hc6 := ho.cel (fun e => H17.out.2 e.symm) H17.out.1; have d0 := hc6.at_ 0; have d1 := hc6.at_ 1; have d2 := hc6.at_ 2; have d3 := hc6.at_ 3; have d4 := hc6.at_ 4; have d5 := hc6.at_ 5; have d6 := hc6.at_ 6; clear M hz ho hg9 hm9 hc6))
  (try simp only [Exit.inBlock, Exit.then])
  refine bodyPost_ret (v := .agg #[.int .i64 k', .int .i64 o, .int .i64 vk, .int .i64 vn, .string vs, .string nm, .slice A1 m1 c1]) ?_ rfl ?_
  · simp only [results, Tryz.f42]
    go_simp
  exact gives_put HB.out (ExIn.to (fun b hb => ⟨hb.1, Nat.lt_of_lt_of_le hb.2 H21.out.size⟩) (fun p hp => World.cell?_of_block (H21.out.2 p.block hp.2 (by have := hp.1; have := HB.out; omega))) _ _ H14.out) H19.out H20.out H18.out.oth
theorem oneR_step {B n c N : Nat} {A : Option Addr} {L : List To} (h1 : ReadsR 24 #[pV B, .int .i64 1] B A n c L (fun p => rankP (Ts L) N 1 p)) (hlist : ∀ most, most = 1 ∨ most = 4 → ReadsRL 62 B A n c L most (fun p => listP (Ts L) N most p)) (hL : Rts L) (hn : n = L.length) : ReadsR 42 #[pV B] B A n c L (fun p => oneP (Ts L) (N + 1) p) := by
  intro w p h hE hp h99
  cases hv : isVal (tk (Ts L) p) with
  | true => exact oneR_val hL hn h hE hp hv
  | false =>
  by_cases k1 : (tk (Ts L) p).1 = 1
  · exact oneR_col hL hn h hE hp hv k1
  by_cases k5 : (tk (Ts L) p).1 = 5
  · exact oneR_par hL hn h hE hp hv k5
  cases hc : isT (Ts L) p kCOAL with
  | true => exact oneR_COAL hL hn h hE hp hv k1 k5 hc (hlist 4 (.inr rfl)) h99
  | false =>
  cases hl : isT (Ts L) p kLEN with
  | true => exact oneR_LEN hL hn h hE hp hv k1 k5 hc hl (hlist 1 (.inl rfl)) h99
  | false =>
  cases ha : isT (Ts L) p kABS with
  | true => exact oneR_ABS hL hn h hE hp hv k1 k5 hc hl ha (hlist 1 (.inl rfl)) h99
  | false => exact oneR_brk hL hn h hE hp hv k1 k5 hc hl ha h1 h99
end Go.Proofs.YtlkmhdbmcfblkaaGreatDoor.Ep
