/- The document's parser reads what holds together most. -/
import Derived.Test.YtlkmhdbmcfblkaaGreatDoorRsIs
import Derived.Test.YtlkmhdbmcfblkaaGreatDoorRsRow
import Derived.Test.YtlkmhdbmcfblkaaGreatDoorRsVals
namespace Go.Proofs.YtlkmhdbmcfblkaaGreatDoor.Ep
open Go.RowKit Go.Proofs.YtlkmhdbmcfblkaaGreatDoor.Mem Go.Proofs.YtlkmhdbmcfblkaaGreatDoor.Right Go.Proofs.YtlkmhdbmcfblkaaGreatDoor.Lx Go.Deep
set_option linter.unusedVariables false

abbrev tRT : TypeId := 27
/-- On the way: the result's cell is zero, the token lies behind it. -/
structure Omid (w W : World) (B : Nat) (k : Int) (l : ByteArray) (a : Int) : Prop where
  c2 : Cel W w.heap.size tE zC.toArray
  c3 : Cel W (w.heap.size + 1) tRT #[.int .i64 k, .string l, .int .i64 a]
  oth : Oth B w W
  lt : w.heap.size + 1 < W.heap.size
theorem Omid.next {w W W' : World} {B : Nat} {k : Int} {l : ByteArray} {a : Int} (h : Omid w W B k l a) (hB : B < w.heap.size) (ho : Oth B W W') : Omid w W' B k l a :=
  ⟨ho.cel (by omega) h.c2, ho.cel (by omega) h.c3, h.oth.trans ho, Nat.lt_of_lt_of_le h.lt ho.size⟩
theorem Omid.bel {w W W' : World} {B : Nat} {k : Int} {l : ByteArray} {a : Int} (h : Omid w W B k l a) (hB : B < w.heap.size) (hb : Below W.heap.size W W') : Omid w W' B k l a := h.next hB (Oth.of hb (by have := h.lt; omega))
theorem tree_call {w W w5 : World} {g m c : Nat} {xs : List Ex} (h : OwnL W w5 (.slice (some ⟨g, 0, none⟩) m c) xs) (hw : w.heap.size < W.heap.size) (nm : List UInt8) : ExIn w5 (fun b => w.heap.size < b ∧ b < w5.heap.size) (call nm xs) [.int .i64 7, .int .i64 0, .int .i64 0, .int .i64 0, .string ⟨#[]⟩, .string (Ep.txt nm), .slice (some ⟨g, 0, none⟩) m c] := by
  obtain ⟨S, h1, h2⟩ := h
  refine (h1.tree 7 0 0 0 [] nm).more fun b hb => ?_
  rcases hb with hb | hb
  · have := h2 b hb
    exact ⟨by omega, this.2.1⟩
  · have := h1.lt b hb
    exact ⟨by omega, this.2⟩
theorem oneP_val {L : List Tt} {N p : Nat} (hv : isVal (tk L p) = true) {rk rn : Int} {rs : List UInt8} {re : Int} (hr : Val.rd (tk L p).2 = ⟨rk, rn, rs, re⟩) : oneP L (N + 1) p = if re = 0 then .ok (lit rk rn rs) (p + 1) else .err re p := by
  rw [oneP, if_pos hv, hr]
set_option maxRecDepth 100000 in
set_option maxHeartbeats 4000000 in
theorem oneR_val {B n c N : Nat} {A : Option Addr} {L : List To} (hL : Rts L) (hn : n = L.length) {w : World} {p : Nat} (h : Rz w B (.slice A n c) p 0) (hE : ToksIn w (fun b => b < B) A L) (hp : p < L.length) (hv : isVal (tk (Ts L) p) = true) : Calls Tryz.prog 42 #[pV B] w (Gives w B (.slice A n c) (oneP (Ts L) (N + 1) p)) := by
  obtain ⟨x, hx⟩ := to_some hp
  have hp1 : p ≤ 1000 := by have := hL.1; omega
  obtain ⟨hat, hk0, hkind⟩ := right_kind (hL.at_ hx).1
  have htx := (hL.at_ hx).2
  have hB := h.lt
  have hVA := value09_any x (hL.at_ hx).1 htx
  obtain ⟨⟨rk, rn, rs, re⟩, hrd⟩ : ∃ g, valR x = g := ⟨_, rfl⟩
  rw [hrd] at hVA
  obtain ⟨b, o, hA, hpn, x0, x1, x2⟩ := h.tok hE hx hn
  have hvc := fun hv => val_cases (hL.at_ hx).1 hv
  have htk := tk_at hx
  obtain ⟨k, l, a⟩ := x
  subst hA
  replace hkind : k = (kindOf l : Int) := hkind
  have HVA := Lib.hid (show ∀ W, Calls Tryz.prog 63 #[.agg #[.int .i64 k, .string (Ep.txt l), .int .i64 a]] W fun e w' => e = .returned (.tuple #[.agg #[.int .i64 rk, .int .i64 rn, .string (Ep.txt rs)], .int .i64 re]) ∧ Below W.heap.size W w' from hVA)
  have q0 := past (h.at_ 0) (.cells zC.toArray tE)
  have q1 := past (h.at_ 1) (.cells zC.toArray tE)
  have q0' := past q0 (.cells #[.int .i64 0, .string ⟨#[]⟩, .int .i64 0] tRT)
  have q1' := past q1 (.cells #[.int .i64 0, .string ⟨#[]⟩, .int .i64 0] tRT)
  have x0' := past (past x0 (.cells zC.toArray tE)) (.cells #[.int .i64 0, .string ⟨#[]⟩, .int .i64 0] tRT)
  have x1' := past (past x1 (.cells zC.toArray tE)) (.cells #[.int .i64 0, .string ⟨#[]⟩, .int .i64 0] tRT)
  have x2' := past (past x2 (.cells zC.toArray tE)) (.cells #[.int .i64 0, .string ⟨#[]⟩, .int .i64 0] tRT)
  have y0 := past x0 (.cells zC.toArray tE)
  have y1 := past x1 (.cells zC.toArray tE)
  have y2 := past x2 (.cells zC.toArray tE)
  obtain ⟨W1, hW1⟩ : ∃ W1, ((w.alloc (.cells zC.toArray tE)).alloc (.cells #[.int .i64 k, .string (Ep.txt l), .int .i64 a] tRT)).drew = W1 := ⟨_, rfl⟩
  have hb1 : Below w.heap.size w W1 := hW1 ▸ (al (al (Below.refl _ _) _) _).drew
  have hM1 : Omid w W1 B k (Ep.txt l) a := by
    refine ⟨?_, ?_, Oth.of hb1 (Nat.le_of_lt hB), ?_⟩
    · rw [← hW1]; exact (Cel.new w tE _ rfl).alloc _
    · rw [← hW1]; exact Cel.new (w.alloc _) tRT _ (by simp)
    · rw [← hW1]; simp
  have HM1 := Lib.hid hM1
  have HZ1 := Lib.hid (h.below hb1)
  have u0 : W1.cell? ⟨w.heap.size + 1, 0, none⟩ = some (.int .i64 k) := hM1.c3.at_ 0
  have u1 : W1.cell? ⟨w.heap.size + 1, 1, none⟩ = some (.string (Ep.txt l)) := hM1.c3.at_ 1
  have u2 : W1.cell? ⟨w.heap.size + 1, 2, none⟩ = some (.int .i64 a) := hM1.c3.at_ 2
  have HB := Lib.hid hB
  have hnb0 : ¬ B = w.heap.size := by omega
  have hnb1 : ¬ B = w.heap.size + 1 := by omega
  have hnb2 : ¬ w.heap.size + 1 = B := by omega
  rw [htk] at hv
  have hrd2 : Val.rd l = ⟨rk, rn, rs, re⟩ := by rw [← hrd]; unfold valR; rw [if_pos hv]
  rw [oneP_val (rk := rk) (rn := rn) (rs := rs) (re := re) (by rw [htk]; exact hv) (by rw [htk]; exact hrd2)]
  have hcase : k = 3 ∨ k = 4 ∨ (k = 2 ∧ (l = Val.wTrue ∨ l = Val.wFalse ∨ l = Val.wNull)) := hvc hv
  clear hL hv hrd2 hvc h hE hx hn hb1 hM1 hVA x0 x1 x2 hk0 hat hrd hkind htx htk
  have hguard : k = 3 ∨ k = 4 ∨ (k = 2 ∧ (((Ep.txt l).toList == [84, 82, 85, 69]) = true ∨ (((Ep.txt l).toList == [84, 82, 85, 69]) = false ∧ ((Ep.txt l).toList == [70, 65, 76, 83, 69]) = true) ∨ (((Ep.txt l).toList == [84, 82, 85, 69]) = false ∧ ((Ep.txt l).toList == [70, 65, 76, 83, 69]) = false ∧ ((Ep.txt l).toList == [78, 85, 76, 76]) = true))) := by
    rcases hcase with h | h | ⟨h, h2⟩
    · exact .inl h
    · exact .inr (.inl h)
    · refine .inr (.inr ⟨h, ?_⟩)
      simp only [Lib.toList_data]
      rcases h2 with h2 | h2 | h2
      · left; rw [h2]; rfl
      · right; left; rw [h2]; exact ⟨rfl, rfl⟩
      · right; right; rw [h2]; exact ⟨rfl, rfl, rfl⟩
  clear hcase
  by_cases he : re = 0
  · subst he
    rw [if_pos rfl]
    rcases hguard with rfl | rfl | ⟨rfl, g | ⟨g, gg⟩ | ⟨g, gg, ggg⟩⟩
    all_goals
      go_enter Tryz.func42, Tryz.ntmps42
      go_wp2
      go_region
      go_wp2_with (go_at_call 63; (refine (HVA.out _).mono ?_); rintro e' w2 ⟨rfl, hb⟩; have hb3 := al (Below.refl w2.heap.size w2) (.cells #[.int .i64 rk, .int .i64 rn, .string (Ep.txt rs)] 29); obtain ⟨W2, hW2⟩ : ∃ W2, w2.alloc (.cells #[.int .i64 rk, .int .i64 rn, .string (Ep.txt rs)] 29) = W2 := ⟨_, rfl⟩; rw [hW2] at hb3; have hne : ¬ B = w2.heap.size := (by have := (HM1.out.bel HB.out hb).lt; have := HB.out; omega); have hne' : ¬ w2.heap.size = B := fun e => hne e.symm; have M := (HM1.out.bel HB.out hb).bel HB.out hb3; have H2 := Lib.hid M; have hz2 := (HZ1.out.below hb).below hb3; have H3 := Lib.hid hz2; have hv4 : Cel W2 w2.heap.size 29 #[.int .i64 rk, .int .i64 rn, .string (Ep.txt rs)] := hW2 ▸ Cel.new w2 _ _ rfl; have i0 := hv4.at_ 0; have i1 := hv4.at_ 1; have i2 := hv4.at_ 2; have j0 := M.c3.at_ 0; have j1 := M.c3.at_ 1; have z1 := hz2.at_ 1; have z2 := hz2.at_ 2; have g1 := hz2.open_ 1; have g2 := hz2.open_ 2; have b0 := M.c2.at_ 0; have b1 := M.c2.at_ 1; have b2 := M.c2.at_ 2; have b3 := M.c2.at_ 3; have b4 := M.c2.at_ 4; have b5 := M.c2.at_ 5; have b6 := M.c2.at_ 6; have f4 := fun i => M.c2.open_ i; clear hb hb3 M hz2 hv4)
      (try simp only [Exit.inBlock, Exit.then])
      refine bodyPost_ret (v := .agg #[.int .i64 1, .int .i64 0, .int .i64 rk, .int .i64 rn, .string (Ep.txt rs), .string ⟨#[]⟩, .slice none 0 0]) ?_ rfl ?_
      · simp only [results, Tryz.f42]
        go_simp
      exact gives_put (a := W2.setCell ⟨B, 1, none⟩ (.int .i64 ((p : Int) + 1))) (x := lit rk rn rs) (q := p + 1) (e := 0) HB.out (ExIn.to (fun _ h => h) (fun _ _ => rfl) _ _ (leaf_cells _ _ 1 0 rk rn rs [])) (Cel.set H3.out 1 (.int .i64 ((p : Int) + 1))) ⟨rfl, rfl, rfl⟩ (H2.out.oth.set _ _)
  · rw [if_neg he]
    have HNE := Lib.hid he
    have te : (re != 0) = true := bne_yes he
    clear he
    rcases hguard with rfl | rfl | ⟨rfl, g | ⟨g, gg⟩ | ⟨g, gg, ggg⟩⟩
    all_goals
      go_enter Tryz.func42, Tryz.ntmps42
      go_wp2
      go_region
      go_wp2_with (go_at_call 63; (refine (HVA.out _).mono ?_); rintro e' w2 ⟨rfl, hb⟩; have hb3 := al (Below.refl w2.heap.size w2) (.cells #[.int .i64 rk, .int .i64 rn, .string (Ep.txt rs)] 29); obtain ⟨W2, hW2⟩ : ∃ W2, w2.alloc (.cells #[.int .i64 rk, .int .i64 rn, .string (Ep.txt rs)] 29) = W2 := ⟨_, rfl⟩; rw [hW2] at hb3; have hne : ¬ B = w2.heap.size := (by have := (HM1.out.bel HB.out hb).lt; have := HB.out; omega); have hne' : ¬ w2.heap.size = B := fun e => hne e.symm; have M := (HM1.out.bel HB.out hb).bel HB.out hb3; have H2 := Lib.hid M; have hz2 := (HZ1.out.below hb).below hb3; have H3 := Lib.hid hz2; have hv4 : Cel W2 w2.heap.size 29 #[.int .i64 rk, .int .i64 rn, .string (Ep.txt rs)] := hW2 ▸ Cel.new w2 _ _ rfl; have i0 := hv4.at_ 0; have i1 := hv4.at_ 1; have i2 := hv4.at_ 2; have j0 := M.c3.at_ 0; have j1 := M.c3.at_ 1; have z1 := hz2.at_ 1; have z2 := hz2.at_ 2; have g1 := hz2.open_ 1; have g2 := hz2.open_ 2; have b0 := M.c2.at_ 0; have b1 := M.c2.at_ 1; have b2 := M.c2.at_ 2; have b3 := M.c2.at_ 3; have b4 := M.c2.at_ 4; have b5 := M.c2.at_ 5; have b6 := M.c2.at_ 6; have f4 := fun i => M.c2.open_ i; clear hb hb3 M hz2 hv4)
      (try simp only [Exit.inBlock, Exit.then])
      refine bodyPost_ret (v := .agg #[.int .i64 0, .int .i64 0, .int .i64 0, .int .i64 0, .string ⟨#[]⟩, .string ⟨#[]⟩, .slice none 0 0]) ?_ rfl ?_
      · simp only [results, Tryz.f42]
        go_simp
      exact gives_put (a := W2.setCell ⟨B, 2, none⟩ (.int .i64 re)) (x := exZ) (q := p) (e := re) HB.out (zC_in _ _) (Cel.set H3.out 2 (.int .i64 re)) ⟨rfl, rfl, HNE.out⟩ (H2.out.oth.set _ _)
end Go.Proofs.YtlkmhdbmcfblkaaGreatDoor.Ep
