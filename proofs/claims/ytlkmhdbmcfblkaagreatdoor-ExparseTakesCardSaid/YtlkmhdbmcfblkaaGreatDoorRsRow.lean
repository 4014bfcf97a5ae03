/- The document's parser reads operands with signs of a rank between them. -/
import Derived.Test.YtlkmhdbmcfblkaaGreatDoorRsLists
namespace Go.Proofs.YtlkmhdbmcfblkaaGreatDoor.Ep
open Go.RowKit Go.Proofs.YtlkmhdbmcfblkaaGreatDoor.Mem Go.Proofs.YtlkmhdbmcfblkaaGreatDoor.Right Go.Proofs.YtlkmhdbmcfblkaaGreatDoor.Lx
set_option linter.unusedVariables false

/-- Where the row stands: what is read goes on, or there was an error. -/
def RowSt (L : List Tt) (r gk : Nat) (R : Res Ex) (x : Ex) (q : Nat) (e : Int) : Prop := (e = 0 ∧ loopP L gk r x q = R) ∨ (e ≠ 0 ∧ R = .err e q)
/-- The world behind one more operand and its tree. -/
theorem row_put {w wr w3 : World} {B b5 : Nat} {tk : Value} {q : Nat} {e : Int} {x y : Ex} {op : Int} {k o vk vn : Int} {vs nm : ByteArray} {A1 : Option Addr} {m1 c1 : Nat} {k' o' vk' vn' : Int} {vs' nm' : ByteArray} {A2 : Option Addr} {m2 c2 : Nat} (hB : B < w.heap.size) (h5 : w.heap.size < b5) (h5r : b5 < wr.heap.size) (ho : Oth B w wr) (ho3 : Oth B wr w3)
    (hc4 : Cel wr w.heap.size tE zC.toArray) (hc5 : Cel wr b5 tE #[.int .i64 k, .int .i64 o, .int .i64 vk, .int .i64 vn, .string vs, .string nm, .slice A1 m1 c1])
    (hx : ExIn wr (fun b => w.heap.size < b ∧ b < wr.heap.size ∧ b ≠ b5) x [.int .i64 k, .int .i64 o, .int .i64 vk, .int .i64 vn, .string vs, .string nm, .slice A1 m1 c1]) (hy : ExIn w3 (fun b => wr.heap.size ≤ b ∧ b < w3.heap.size) y [.int .i64 k', .int .i64 o', .int .i64 vk', .int .i64 vn', .string vs', .string nm', .slice A2 m2 c2]) (hz : Rz w3 B tk q e) :
    ∃ W8, (w3.alloc (.cells #[.int .i64 k', .int .i64 o', .int .i64 vk', .int .i64 vn', .string vs', .string nm', .slice A2 m2 c2] tE)).alloc (.cells #[.int .i64 k, .int .i64 o, .int .i64 vk, .int .i64 vn, .string vs, .string nm, .slice A1 m1 c1, .int .i64 k', .int .i64 o', .int .i64 vk', .int .i64 vn', .string vs', .string nm', .slice A2 m2 c2] tE) = W8 ∧
      Rz (put7 W8 b5 0 (.int .i64 5) (.int .i64 op) (.int .i64 0) (.int .i64 0) (.string ⟨#[]⟩) (.string ⟨#[]⟩) (.slice (some ⟨w3.heap.size + 1, 0, none⟩) 2 2)) B tk q e ∧
      Cel (put7 W8 b5 0 (.int .i64 5) (.int .i64 op) (.int .i64 0) (.int .i64 0) (.string ⟨#[]⟩) (.string ⟨#[]⟩) (.slice (some ⟨w3.heap.size + 1, 0, none⟩) 2 2)) b5 tE #[.int .i64 5, .int .i64 op, .int .i64 0, .int .i64 0, .string ⟨#[]⟩, .string ⟨#[]⟩, .slice (some ⟨w3.heap.size + 1, 0, none⟩) 2 2] ∧
      Cel (put7 W8 b5 0 (.int .i64 5) (.int .i64 op) (.int .i64 0) (.int .i64 0) (.string ⟨#[]⟩) (.string ⟨#[]⟩) (.slice (some ⟨w3.heap.size + 1, 0, none⟩) 2 2)) w.heap.size tE zC.toArray ∧
      ExIn (put7 W8 b5 0 (.int .i64 5) (.int .i64 op) (.int .i64 0) (.int .i64 0) (.string ⟨#[]⟩) (.string ⟨#[]⟩) (.slice (some ⟨w3.heap.size + 1, 0, none⟩) 2 2)) (fun b => w.heap.size < b ∧ b < (put7 W8 b5 0 (.int .i64 5) (.int .i64 op) (.int .i64 0) (.int .i64 0) (.string ⟨#[]⟩) (.string ⟨#[]⟩) (.slice (some ⟨w3.heap.size + 1, 0, none⟩) 2 2)).heap.size ∧ b ≠ b5) (bin op x y) [.int .i64 5, .int .i64 op, .int .i64 0, .int .i64 0, .string ⟨#[]⟩, .string ⟨#[]⟩, .slice (some ⟨w3.heap.size + 1, 0, none⟩) 2 2] ∧
      Oth B w (put7 W8 b5 0 (.int .i64 5) (.int .i64 op) (.int .i64 0) (.int .i64 0) (.string ⟨#[]⟩) (.string ⟨#[]⟩) (.slice (some ⟨w3.heap.size + 1, 0, none⟩) 2 2)) ∧ b5 < (put7 W8 b5 0 (.int .i64 5) (.int .i64 op) (.int .i64 0) (.int .i64 0) (.string ⟨#[]⟩) (.string ⟨#[]⟩) (.slice (some ⟨w3.heap.size + 1, 0, none⟩) 2 2)).heap.size := by
  have hs := ho.size
  have hs3 := ho3.size
  obtain ⟨W7, hW7⟩ : ∃ W7, w3.alloc (.cells #[.int .i64 k', .int .i64 o', .int .i64 vk', .int .i64 vn', .string vs', .string nm', .slice A2 m2 c2] tE) = W7 := ⟨_, rfl⟩
  have hs7 : W7.heap.size = w3.heap.size + 1 := by rw [← hW7]; simp
  have hb7 : Below w3.heap.size w3 W7 := hW7 ▸ al (Below.refl _ _) _
  have hx7 : ExIn W7 (fun b => w.heap.size < b ∧ b < W7.heap.size ∧ b ≠ b5 ∧ b ≠ w3.heap.size) x [.int .i64 k, .int .i64 o, .int .i64 vk, .int .i64 vn, .string vs, .string nm, .slice A1 m1 c1] := ExIn.to (fun b hb => ⟨hb.1, by omega, hb.2.2, by omega⟩) (fun p hp => (hb7.cell (p := p) (by have := hp.2.1; show p.block < _; omega)).trans (World.cell?_of_block (ho3.2 p.block hp.2.1 (by have := hp.1; omega)))) _ _ hx
  have hy7 : ExIn W7 (fun b => w.heap.size < b ∧ b < W7.heap.size ∧ b ≠ b5 ∧ b ≠ w3.heap.size) y [.int .i64 k', .int .i64 o', .int .i64 vk', .int .i64 vn', .string vs', .string nm', .slice A2 m2 c2] := ExIn.to (fun b hb => ⟨by omega, by omega, by omega, by omega⟩) (fun p hp => hb7.cell (p := p) hp.2) _ _ hy
  have ht := tree_two hx7 hy7 (fun b hb => hb.2.1) 5 op
  rw [hs7] at ht
  obtain ⟨W8, hW8⟩ : ∃ W8, W7.alloc (.cells #[.int .i64 k, .int .i64 o, .int .i64 vk, .int .i64 vn, .string vs, .string nm, .slice A1 m1 c1, .int .i64 k', .int .i64 o', .int .i64 vk', .int .i64 vn', .string vs', .string nm', .slice A2 m2 c2] tE) = W8 := ⟨_, rfl⟩
  rw [hW8] at ht
  have hs8 : W8.heap.size = w3.heap.size + 2 := by rw [← hW8]; simp [hs7]
  have hb8 : Below w3.heap.size w3 W8 := hW8 ▸ hb7.trans (al (Below.refl W7.heap.size W7) _ |>.mono (by omega))
  have c5 : Cel W8 b5 tE #[.int .i64 k, .int .i64 o, .int .i64 vk, .int .i64 vn, .string vs, .string nm, .slice A1 m1 c1] := (ho3.cel (by omega) hc5).below hb8
  have c4 : Cel W8 w.heap.size tE zC.toArray := (ho3.cel (by omega) hc4).below hb8
  have k5 := ((((((c5.set 0 (.int .i64 5)).set 1 (.int .i64 op)).set 2 (.int .i64 0)).set 3 (.int .i64 0)).set 4 (.string ⟨#[]⟩)).set 5 (.string ⟨#[]⟩)).set 6 (.slice (some ⟨w3.heap.size + 1, 0, none⟩) 2 2)
  simp only [List.setIfInBounds_toArray, List.set_cons_zero, List.set_cons_succ] at k5
  have h08 : Oth B w W8 := ((ho.trans ho3).trans (Oth.of hb8 (by omega)))
  refine ⟨W8, by rw [hW7, hW8], Cel.put_other (hz.below hb8) (by omega), k5, Cel.put_other c4 (by omega), ?_, Oth.put_new h08 (by omega) (by omega), by rw [put7_size]; omega⟩
  refine ExIn.to (fun b hb => ?_) (fun p hp => World.cell?_of_block (put7_oth ?_)) _ _ ht
  · rw [put7_size]
    rcases hb with hb | hb
    · exact ⟨hb.1, by omega, hb.2.2.1⟩
    · omega
  · rcases hp with hp | hp
    · exact hp.2.2.1
    · omega

set_option maxRecDepth 100000 in
set_option maxHeartbeats 4000000 in
theorem rankR_1 {B n c N : Nat} {A : Option Addr} {L : List To} (hop : ∀ m, m ≤ N → ReadsR 24 #[pV B, .int .i64 2] B A n c L (fun p => rankP (Ts L) m 2 p)) (hL : Rts L) (hn : n = L.length) : ReadsR 24 #[pV B, .int .i64 1] B A n c L (fun p => rankP (Ts L) (N + 1) 1 p) := by
  intro w p h hE hp h99
  obtain ⟨R, hR⟩ : ∃ R, rankP (Ts L) (N + 1) 1 p = R := ⟨_, rfl⟩
  replace h99 : ∀ q, R ≠ .err 99 q := fun q => by rw [← hR]; exact h99 q
  show Calls Tryz.prog 24 #[pV B, .int .i64 1] w (Gives w B (.slice A n c) (rankP (Ts L) (N + 1) 1 p))
  rw [hR]
  rw [rankP, if_neg (by decide), if_neg (by decide), if_neg (by decide), if_neg (by decide)] at hR
  have hB := h.lt
  have h99' := no99_bind (fun q' => by rw [hR]; exact h99 q')
  obtain ⟨W0, hW0⟩ : ∃ W0, w.alloc (.cells zC.toArray tE) = W0 := ⟨_, rfl⟩
  have hb0 : Below w.heap.size w W0 := hW0 ▸ al (Below.refl _ _) _
  have hO0 := Oth.of hb0 (Nat.le_of_lt hB)
  have hz0 := h.below hb0
  have hc0 : Cel W0 w.heap.size tE zC.toArray := hW0 ▸ Cel.new w _ _ rfl
  have hs0 : W0.heap.size = w.heap.size + 1 := by rw [← hW0]; simp
  have r2 := hz0.at_ 2
  have H0 := Lib.hid ((hop N (Nat.le_refl _)).got hz0 (hE.oth hO0) hp rfl h99')
  have HIN := Lib.hid ((inner hL.2.2 N).rank 2 p (by rw [Ts_len]; exact hp))
  have H991 := Lib.hid h99'
  have HO0 := Lib.hid hO0
  have HC0 := Lib.hid hc0
  have HS0 := Lib.hid hs0
  have HRR := Lib.hid hR
  have HOP := Lib.hid hop
  have HE := Lib.hid hE
  have HL := Lib.hid hL
  have HN := Lib.hid hn
  have HB := Lib.hid hB
  have H99 := Lib.hid h99
  clear h hE hop hR hL hn hp h99 h99' hb0 hO0 hz0 hc0 hs0 hB
  go_enter Tryz.func24, Tryz.ntmps24
  go_wp2_with (go_at_call 24; (refine H0.out.mono ?_); rintro e' w1 ⟨x, k, o, vk, vn, vs, nm, A1, m1, c1, q, e, rfl, hx, hz, hg, ho⟩; have H1 := Lib.hid (And.intro hx (And.intro hz (And.intro hg ho))); clear hx hz hg ho)
  go_loopg [6] N (fun gk _o wr => ∃ (x : Ex) (k o vk vn : Int) (vs nm : ByteArray) (A1 : Option Addr) (m1 c1 : Nat) (q : Nat) (e : Int), Hid (gk ≤ N) ∧ Hid (RowSt (Ts L) 1 gk R x q e) ∧ Hid (q < L.length) ∧ Hid (Rz wr B (.slice A n c) q e) ∧ Hid (Cel wr w1.heap.size tE #[.int .i64 k, .int .i64 o, .int .i64 vk, .int .i64 vn, .string vs, .string nm, .slice A1 m1 c1]) ∧ Hid (Cel wr w.heap.size tE zC.toArray) ∧ Hid (ExIn wr (fun b => w.heap.size < b ∧ b < wr.heap.size ∧ b ≠ w1.heap.size) x [.int .i64 k, .int .i64 o, .int .i64 vk, .int .i64 vn, .string vs, .string nm, .slice A1 m1 c1]) ∧ Hid (Oth B w wr) ∧ Hid (w.heap.size < w1.heap.size ∧ w1.heap.size < wr.heap.size))
  case atStart =>
    obtain ⟨hx, hz, hg, ho⟩ := H1.out
    have hs1 := ho.size
    have hs0 := HS0.out
    have hb := al (Below.refl w1.heap.size w1) (.cells #[.int .i64 k, .int .i64 o, .int .i64 vk, .int .i64 vn, .string vs, .string nm, .slice A1 m1 c1] tE)
    have hq : q < L.length := hg.lt HIN.out H991.out
    have hB := HB.out
    refine ⟨x, k, o, vk, vn, vs, nm, A1, m1, c1, q, e, Lib.hid (Nat.le_refl _), Lib.hid ?_, Lib.hid hq, Lib.hid (hz.below hb), Lib.hid (Cel.new w1 _ _ rfl), Lib.hid ((ho.cel (by omega) HC0.out).below hb), Lib.hid (ExIn.to (fun b hb' => ⟨by omega, by simp; omega, by omega⟩) (fun p hp => hb.cell (p := p) hp.2) _ _ hx), Lib.hid ((HO0.out.trans ho).trans (Oth.of hb (by omega))), Lib.hid ⟨by omega, by simp⟩⟩
    have hrr := HRR.out
    cases h1 : rankP (Ts L) N 2 p with
    | ok y s =>
      rw [h1] at hg hrr
      obtain ⟨rfl, rfl, rfl⟩ := hg
      exact .inl ⟨rfl, hrr⟩
    | err c s =>
      rw [h1] at hg hrr
      obtain ⟨rfl, rfl, h0⟩ := hg
      exact .inr ⟨h0, hrr.symm⟩
  case round =>
    obtain ⟨x, k, o, vk, vn, vs, nm, A1, m1, c1, q, e, HK, HST, HQ, HZ, HC5, HC4, HX, HO, HSZ⟩ := hrel
    have r2 := HZ.out.at_ 2
    by_cases he : e = 0
    case neg =>
      have te : (e == 0) = false := beq_no he
      have HF := Lib.hid (show GotR R x q e from by
        rcases HST.out with ⟨h, _⟩ | ⟨_, h⟩
        · exact absurd h he
        · rw [h]; exact ⟨rfl, rfl, he⟩)
      have f5 := fun i => HC5.out.open_ i
      have a0 := HC5.out.at_ 0
      have a1 := HC5.out.at_ 1
      have a2 := HC5.out.at_ 2
      have a3 := HC5.out.at_ 3
      have a4 := HC5.out.at_ 4
      have a5 := HC5.out.at_ 5
      have a6 := HC5.out.at_ 6
      have b0 := HC4.out.at_ 0
      have b1 := HC4.out.at_ 1
      have b2 := HC4.out.at_ 2
      have b3 := HC4.out.at_ 3
      have b4 := HC4.out.at_ 4
      have b5 := HC4.out.at_ 5
      have b6 := HC4.out.at_ 6
      have f4 := fun i => HC4.out.open_ i
      clear he
      go_wp2_with fail
      (try simp only [Exit.inBlock, Exit.then])
      refine bodyPost_ret (v := .agg #[.int .i64 k, .int .i64 o, .int .i64 vk, .int .i64 vn, .string vs, .string nm, .slice A1 m1 c1]) ?_ rfl ?_
      · simp only [results, Tryz.f24]
        go_simp
      exact gives_put HB.out (HX.out.more fun b hb => ⟨hb.1, hb.2.1⟩) HZ.out HF.out HO.out
    subst he
    cases gk with
    | zero =>
      rcases HST.out with ⟨_, h⟩ | ⟨h, _⟩
      · rw [loopP] at h
        exact absurd h.symm (H99.out q)
      · exact absurd rfl h
    | succ m =>
    have hr1 : loopP (Ts L) (m + 1) 1 x q = R := by
      rcases HST.out with ⟨_, h⟩ | ⟨h, _⟩
      · exact h
      · exact absurd rfl h
    rw [loopP] at hr1
    have hwn := HN.out
    have HSG := Lib.hid (show Calls Tryz.prog 43 #[pV B, .int .i64 1] wr _ from signR_any HZ.out (HE.out.oth HO.out) HL.out hwn HQ.out 1)
    by_cases hs : sgAt (Ts L) 1 q = 0
    · rw [if_pos hs] at hr1
      rw [if_pos rfl, if_neg (fun g => g.2 hs), hs] at HSG
      have HF := Lib.hid (show GotR R x q 0 from by rw [← hr1]; exact ⟨rfl, rfl, rfl⟩)
      clear hs hr1 hwn
      go_wp2_with (go_at_call 43; (refine HSG.out.mono ?_); rintro e' w2 ⟨rfl, h1, h2⟩; have H3 := Lib.hid h1; have H4 := Lib.hid h2; have hc5 := h2.cel (by have := HB.out; have := HSZ.out.1; omega) HC5.out; have hc4 := h2.cel (by have := HB.out; omega) HC4.out; have f5 := fun i => hc5.open_ i; have f4 := fun i => hc4.open_ i; have a0 := hc5.at_ 0; have b0 := hc4.at_ 0; have a1 := hc5.at_ 1; have b1 := hc4.at_ 1; have a2 := hc5.at_ 2; have b2 := hc4.at_ 2; have a3 := hc5.at_ 3; have b3 := hc4.at_ 3; have a4 := hc5.at_ 4; have b4 := hc4.at_ 4; have a5 := hc5.at_ 5; have b5 := hc4.at_ 5; have a6 := hc5.at_ 6; have b6 := hc4.at_ 6; clear h1 h2 hc5 hc4)
      (try simp only [Exit.inBlock, Exit.then])
      refine bodyPost_ret (v := .agg #[.int .i64 k, .int .i64 o, .int .i64 vk, .int .i64 vn, .string vs, .string nm, .slice A1 m1 c1]) ?_ rfl ?_
      · simp only [results, Tryz.f24]
        go_simp
      exact gives_put HB.out (ExIn.to (fun b hb => ⟨hb.1, Nat.lt_of_lt_of_le hb.2.1 H4.out.size⟩) (fun p hp => World.cell?_of_block (H4.out.2 p.block hp.2.1 (by have := hp.1; have := HB.out; omega))) _ _ HX.out) H3.out HF.out (HO.out.trans H4.out)
    · rw [if_neg hs] at hr1
      have hq1 : q + 1 < L.length := by have := HL.out.2.2.sg (by rw [Ts_len]; exact HQ.out) hs; rwa [Ts_len] at this
      have h99' := no99_bind (fun q' => by rw [hr1]; exact H99.out q')
      have HIN2 := Lib.hid ((inner HL.out.2.2 m).rank 2 (q + 1) (by rw [Ts_len]; exact hq1))
      obtain ⟨op, hop⟩ : ∃ op, sgAt (Ts L) 1 q = op := ⟨_, rfl⟩
      rw [if_pos rfl, if_pos ⟨rfl, hs⟩, hop] at HSG
      rw [hop] at hr1 hs
      have t0 : (op == 0) = false := beq_no hs
      have HO2 := Lib.hid (show ∀ W, Rz W B (.slice A n c) (q + 1) 0 → Oth B wr W → Calls Tryz.prog 24 #[pV B, .int .i64 2] W (Gives W B (.slice A n c) (rankP (Ts L) m 2 (q + 1))) from fun W hW hb => (HOP.out m (by have := HK.out; omega)).got hW ((HE.out.oth HO.out).oth hb) hq1 rfl h99')
      have HR1 := Lib.hid hr1
      have H992 := Lib.hid h99'
      clear hs hr1 hwn h99' hop hq1
      go_wp2_with (first
        | (go_at_call 43; (refine HSG.out.mono ?_); rintro e' w2 ⟨rfl, h1, h2⟩; have H3 := Lib.hid h1; have H4 := Lib.hid h2; clear h1 h2)
        | (go_at_call 24; (refine (HO2.out _ H3.out H4.out).mono ?_); rintro e' w3 ⟨y, k', o', vk', vn', vs', nm', A2, m2, c2, s, e2, rfl, hy, hz, hg, ho⟩; have hsz2 := H4.out.size; have H6 := Lib.hid (row_put (op := op) (y := y) HB.out HSZ.out.1 HSZ.out.2 HO.out (H4.out.trans ho) HC4.out HC5.out HX.out (hy.more fun b hb => ⟨Nat.le_trans hsz2 hb.1, hb.2⟩) hz); have H7 := Lib.hid hg; have hb7 := al (Below.refl w3.heap.size w3) (.cells #[.int .i64 k', .int .i64 o', .int .i64 vk', .int .i64 vn', .string vs', .string nm', .slice A2 m2 c2] tE); obtain ⟨W7, hW7⟩ : ∃ W7, w3.alloc (.cells #[.int .i64 k', .int .i64 o', .int .i64 vk', .int .i64 vn', .string vs', .string nm', .slice A2 m2 c2] tE) = W7 := ⟨_, rfl⟩; rw [hW7] at hb7; have hd7 : Cel W7 w3.heap.size tE #[.int .i64 k', .int .i64 o', .int .i64 vk', .int .i64 vn', .string vs', .string nm', .slice A2 m2 c2] := hW7 ▸ Cel.new w3 _ _ rfl; have hc5 := ((H4.out.trans ho).cel (by have := HB.out; have := HSZ.out.1; omega) HC5.out).below hb7; have hs7 : W7.heap.size = w3.heap.size + 1 := (by rw [← hW7]; simp); have a0 := hc5.at_ 0; have a1 := hc5.at_ 1; have a2 := hc5.at_ 2; have a3 := hc5.at_ 3; have a4 := hc5.at_ 4; have a5 := hc5.at_ 5; have a6 := hc5.at_ 6; have d0 := hd7.at_ 0; have d1 := hd7.at_ 1; have d2 := hd7.at_ 2; have d3 := hd7.at_ 3; have d4 := hd7.at_ 4; have d5 := hd7.at_ 5; have d6 := hd7.at_ 6; obtain ⟨W8, hW8⟩ : ∃ W8, W7.alloc (.cells #[.int .i64 k, .int .i64 o, .int .i64 vk, .int .i64 vn, .string vs, .string nm, .slice A1 m1 c1, .int .i64 k', .int .i64 o', .int .i64 vk', .int .i64 vn', .string vs', .string nm', .slice A2 m2 c2] tE) = W8 := ⟨_, rfl⟩; have hc58 : Cel W8 w1.heap.size tE #[.int .i64 k, .int .i64 o, .int .i64 vk, .int .i64 vn, .string vs, .string nm, .slice A1 m1 c1] := hW8 ▸ hc5.alloc _; have f5 := fun i => hc58.open_ i; have z0 := hc58.at_ 0; have z1 := hc58.at_ 1; have z2 := hc58.at_ 2; have z3 := hc58.at_ 3; have z4 := hc58.at_ 4; have z5 := hc58.at_ 5; have z6 := hc58.at_ 6; have H8 := Lib.hid (And.intro hW7 hW8); clear hy hz hg ho hb7 hd7 hc5 hc58 hsz2))
      go_roundg m
      case measure => omega
      case rel =>
        obtain ⟨hW7, hW8⟩ := H8.out
        obtain ⟨W8', hW, g1, g2, g3, g4, g5, g6⟩ := H6.out
        have hg := H7.out
        obtain rfl : W8' = W8 := by rw [← hW, ← hW8, ← hW7]
        refine ⟨bin op x y, _, _, _, _, _, _, _, _, _, s, e2, Lib.hid (by have := HK.out; omega), Lib.hid ?_, Lib.hid (hg.lt HIN2.out H992.out), Lib.hid g1, Lib.hid g2, Lib.hid g3, Lib.hid g4, Lib.hid g5, Lib.hid ⟨HSZ.out.1, g6⟩⟩
        have hrr := HR1.out
        cases h1 : rankP (Ts L) m 2 (q + 1) with
        | ok y' s' =>
          rw [h1] at hg hrr
          obtain ⟨rfl, rfl, rfl⟩ := hg
          exact .inl ⟨rfl, hrr⟩
        | err c s' =>
          rw [h1] at hg hrr
          obtain ⟨rfl, rfl, h0⟩ := hg
          exact .inr ⟨h0, hrr.symm⟩

set_option maxRecDepth 100000 in
set_option maxHeartbeats 4000000 in
theorem rankR_2 {B n c N : Nat} {A : Option Addr} {L : List To} (hop : ∀ m, m ≤ N → ReadsR 24 #[pV B, .int .i64 3] B A n c L (fun p => rankP (Ts L) m 3 p)) (hL : Rts L) (hn : n = L.length) : ReadsR 24 #[pV B, .int .i64 2] B A n c L (fun p => rankP (Ts L) (N + 1) 2 p) := by
  intro w p h hE hp h99
  obtain ⟨R, hR⟩ : ∃ R, rankP (Ts L) (N + 1) 2 p = R := ⟨_, rfl⟩
  replace h99 : ∀ q, R ≠ .err 99 q := fun q => by rw [← hR]; exact h99 q
  show Calls Tryz.prog 24 #[pV B, .int .i64 2] w (Gives w B (.slice A n c) (rankP (Ts L) (N + 1) 2 p))
  rw [hR]
  rw [rankP, if_neg (by decide), if_neg (by decide), if_neg (by decide), if_neg (by decide)] at hR
  have hB := h.lt
  have h99' := no99_bind (fun q' => by rw [hR]; exact h99 q')
  obtain ⟨W0, hW0⟩ : ∃ W0, w.alloc (.cells zC.toArray tE) = W0 := ⟨_, rfl⟩
  have hb0 : Below w.heap.size w W0 := hW0 ▸ al (Below.refl _ _) _
  have hO0 := Oth.of hb0 (Nat.le_of_lt hB)
  have hz0 := h.below hb0
  have hc0 : Cel W0 w.heap.size tE zC.toArray := hW0 ▸ Cel.new w _ _ rfl
  have hs0 : W0.heap.size = w.heap.size + 1 := by rw [← hW0]; simp
  have r2 := hz0.at_ 2
  have H0 := Lib.hid ((hop N (Nat.le_refl _)).got hz0 (hE.oth hO0) hp rfl h99')
  have HIN := Lib.hid ((inner hL.2.2 N).rank 3 p (by rw [Ts_len]; exact hp))
  have H991 := Lib.hid h99'
  have HO0 := Lib.hid hO0
  have HC0 := Lib.hid hc0
  have HS0 := Lib.hid hs0
  have HRR := Lib.hid hR
  have HOP := Lib.hid hop
  have HE := Lib.hid hE
  have HL := Lib.hid hL
  have HN := Lib.hid hn
  have HB := Lib.hid hB
  have H99 := Lib.hid h99
  clear h hE hop hR hL hn hp h99 h99' hb0 hO0 hz0 hc0 hs0 hB
  go_enter Tryz.func24, Tryz.ntmps24
  go_wp2_with (go_at_call 24; (refine H0.out.mono ?_); rintro e' w1 ⟨x, k, o, vk, vn, vs, nm, A1, m1, c1, q, e, rfl, hx, hz, hg, ho⟩; have H1 := Lib.hid (And.intro hx (And.intro hz (And.intro hg ho))); clear hx hz hg ho)
  go_loopg [6] N (fun gk _o wr => ∃ (x : Ex) (k o vk vn : Int) (vs nm : ByteArray) (A1 : Option Addr) (m1 c1 : Nat) (q : Nat) (e : Int), Hid (gk ≤ N) ∧ Hid (RowSt (Ts L) 2 gk R x q e) ∧ Hid (q < L.length) ∧ Hid (Rz wr B (.slice A n c) q e) ∧ Hid (Cel wr w1.heap.size tE #[.int .i64 k, .int .i64 o, .int .i64 vk, .int .i64 vn, .string vs, .string nm, .slice A1 m1 c1]) ∧ Hid (Cel wr w.heap.size tE zC.toArray) ∧ Hid (ExIn wr (fun b => w.heap.size < b ∧ b < wr.heap.size ∧ b ≠ w1.heap.size) x [.int .i64 k, .int .i64 o, .int .i64 vk, .int .i64 vn, .string vs, .string nm, .slice A1 m1 c1]) ∧ Hid (Oth B w wr) ∧ Hid (w.heap.size < w1.heap.size ∧ w1.heap.size < wr.heap.size))
  case atStart =>
    obtain ⟨hx, hz, hg, ho⟩ := H1.out
    have hs1 := ho.size
    have hs0 := HS0.out
    have hb := al (Below.refl w1.heap.size w1) (.cells #[.int .i64 k, .int .i64 o, .int .i64 vk, .int .i64 vn, .string vs, .string nm, .slice A1 m1 c1] tE)
    have hq : q < L.length := hg.lt HIN.out H991.out
    have hB := HB.out
    refine ⟨x, k, o, vk, vn, vs, nm, A1, m1, c1, q, e, Lib.hid (Nat.le_refl _), Lib.hid ?_, Lib.hid hq, Lib.hid (hz.below hb), Lib.hid (Cel.new w1 _ _ rfl), Lib.hid ((ho.cel (by omega) HC0.out).below hb), Lib.hid (ExIn.to (fun b hb' => ⟨by omega, by simp; omega, by omega⟩) (fun p hp => hb.cell (p := p) hp.2) _ _ hx), Lib.hid ((HO0.out.trans ho).trans (Oth.of hb (by omega))), Lib.hid ⟨by omega, by simp⟩⟩
    have hrr := HRR.out
    cases h1 : rankP (Ts L) N 3 p with
    | ok y s =>
      rw [h1] at hg hrr
      obtain ⟨rfl, rfl, rfl⟩ := hg
      exact .inl ⟨rfl, hrr⟩
    | err c s =>
      rw [h1] at hg hrr
      obtain ⟨rfl, rfl, h0⟩ := hg
      exact .inr ⟨h0, hrr.symm⟩
  case round =>
    obtain ⟨x, k, o, vk, vn, vs, nm, A1, m1, c1, q, e, HK, HST, HQ, HZ, HC5, HC4, HX, HO, HSZ⟩ := hrel
    have r2 := HZ.out.at_ 2
    by_cases he : e = 0
    case neg =>
      have te : (e == 0) = false := beq_no he
      have HF := Lib.hid (show GotR R x q e from by
        rcases HST.out with ⟨h, _⟩ | ⟨_, h⟩
        · exact absurd h he
        · rw [h]; exact ⟨rfl, rfl, he⟩)
      have f5 := fun i => HC5.out.open_ i
      have a0 := HC5.out.at_ 0
      have a1 := HC5.out.at_ 1
      have a2 := HC5.out.at_ 2
      have a3 := HC5.out.at_ 3
      have a4 := HC5.out.at_ 4
      have a5 := HC5.out.at_ 5
      have a6 := HC5.out.at_ 6
      have b0 := HC4.out.at_ 0
      have b1 := HC4.out.at_ 1
      have b2 := HC4.out.at_ 2
      have b3 := HC4.out.at_ 3
      have b4 := HC4.out.at_ 4
      have b5 := HC4.out.at_ 5
      have b6 := HC4.out.at_ 6
      have f4 := fun i => HC4.out.open_ i
      clear he
      go_wp2_with fail
      (try simp only [Exit.inBlock, Exit.then])
      refine bodyPost_ret (v := .agg #[.int .i64 k, .int .i64 o, .int .i64 vk, .int .i64 vn, .string vs, .string nm, .slice A1 m1 c1]) ?_ rfl ?_
      · simp only [results, Tryz.f24]
        go_simp
      exact gives_put HB.out (HX.out.more fun b hb => ⟨hb.1, hb.2.1⟩) HZ.out HF.out HO.out
    subst he
    cases gk with
    | zero =>
      rcases HST.out with ⟨_, h⟩ | ⟨h, _⟩
      · rw [loopP] at h
        exact absurd h.symm (H99.out q)
      · exact absurd rfl h
    | succ m =>
    have hr1 : loopP (Ts L) (m + 1) 2 x q = R := by
      rcases HST.out with ⟨_, h⟩ | ⟨h, _⟩
      · exact h
      · exact absurd rfl h
    rw [loopP] at hr1
    have hwn := HN.out
    have HSG := Lib.hid (show Calls Tryz.prog 43 #[pV B, .int .i64 2] wr _ from signR_any HZ.out (HE.out.oth HO.out) HL.out hwn HQ.out 2)
    by_cases hs : sgAt (Ts L) 2 q = 0
    · rw [if_pos hs] at hr1
      rw [if_pos rfl, if_neg (fun g => g.2 hs), hs] at HSG
      have HF := Lib.hid (show GotR R x q 0 from by rw [← hr1]; exact ⟨rfl, rfl, rfl⟩)
      clear hs hr1 hwn
      go_wp2_with (go_at_call 43; (refine HSG.out.mono ?_); rintro e' w2 ⟨rfl, h1, h2⟩; have H3 := Lib.hid h1; have H4 := Lib.hid h2; have hc5 := h2.cel (by have := HB.out; have := HSZ.out.1; omega) HC5.out; have hc4 := h2.cel (by have := HB.out; omega) HC4.out; have f5 := fun i => hc5.open_ i; have f4 := fun i => hc4.open_ i; have a0 := hc5.at_ 0; have b0 := hc4.at_ 0; have a1 := hc5.at_ 1; have b1 := hc4.at_ 1; have a2 := hc5.at_ 2; have b2 := hc4.at_ 2; have a3 := hc5.at_ 3; have b3 := hc4.at_ 3; have a4 := hc5.at_ 4; have b4 := hc4.at_ 4; have a5 := hc5.at_ 5; have b5 := hc4.at_ 5; have a6 := hc5.at_ 6; have b6 := hc4.at_ 6; clear h1 h2 hc5 hc4)
      (try simp only [Exit.inBlock, Exit.then])
      refine bodyPost_ret (v := .agg #[.int .i64 k, .int .i64 o, .int .i64 vk, .int .i64 vn, .string vs, .string nm, .slice A1 m1 c1]) ?_ rfl ?_
      · simp only [results, Tryz.f24]
        go_simp
      exact gives_put HB.out (ExIn.to (fun b hb => ⟨hb.1, Nat.lt_of_lt_of_le hb.2.1 H4.out.size⟩) (fun p hp => World.cell?_of_block (H4.out.2 p.block hp.2.1 (by have := hp.1; have := HB.out; omega))) _ _ HX.out) H3.out HF.out (HO.out.trans H4.out)
    · rw [if_neg hs] at hr1
      have hq1 : q + 1 < L.length := by have := HL.out.2.2.sg (by rw [Ts_len]; exact HQ.out) hs; rwa [Ts_len] at this
      have h99' := no99_bind (fun q' => by rw [hr1]; exact H99.out q')
      have HIN2 := Lib.hid ((inner HL.out.2.2 m).rank 3 (q + 1) (by rw [Ts_len]; exact hq1))
      obtain ⟨op, hop⟩ : ∃ op, sgAt (Ts L) 2 q = op := ⟨_, rfl⟩
      rw [if_pos rfl, if_pos ⟨rfl, hs⟩, hop] at HSG
      rw [hop] at hr1 hs
      have t0 : (op == 0) = false := beq_no hs
      have HO2 := Lib.hid (show ∀ W, Rz W B (.slice A n c) (q + 1) 0 → Oth B wr W → Calls Tryz.prog 24 #[pV B, .int .i64 3] W (Gives W B (.slice A n c) (rankP (Ts L) m 3 (q + 1))) from fun W hW hb => (HOP.out m (by have := HK.out; omega)).got hW ((HE.out.oth HO.out).oth hb) hq1 rfl h99')
      have HR1 := Lib.hid hr1
      have H992 := Lib.hid h99'
      clear hs hr1 hwn h99' hop hq1
      go_wp2_with (first
        | (go_at_call 43; (refine HSG.out.mono ?_); rintro e' w2 ⟨rfl, h1, h2⟩; have H3 := Lib.hid h1; have H4 := Lib.hid h2; clear h1 h2)
        | (go_at_call 24; (refine (HO2.out _ H3.out H4.out).mono ?_); rintro e' w3 ⟨y, k', o', vk', vn', vs', nm', A2, m2, c2, s, e2, rfl, hy, hz, hg, ho⟩; have hsz2 := H4.out.size; have H6 := Lib.hid (row_put (op := op) (y := y) HB.out HSZ.out.1 HSZ.out.2 HO.out (H4.out.trans ho) HC4.out HC5.out HX.out (hy.more fun b hb => ⟨Nat.le_trans hsz2 hb.1, hb.2⟩) hz); have H7 := Lib.hid hg; have hb7 := al (Below.refl w3.heap.size w3) (.cells #[.int .i64 k', .int .i64 o', .int .i64 vk', .int .i64 vn', .string vs', .string nm', .slice A2 m2 c2] tE); obtain ⟨W7, hW7⟩ : ∃ W7, w3.alloc (.cells #[.int .i64 k', .int .i64 o', .int .i64 vk', .int .i64 vn', .string vs', .string nm', .slice A2 m2 c2] tE) = W7 := ⟨_, rfl⟩; rw [hW7] at hb7; have hd7 : Cel W7 w3.heap.size tE #[.int .i64 k', .int .i64 o', .int .i64 vk', .int .i64 vn', .string vs', .string nm', .slice A2 m2 c2] := hW7 ▸ Cel.new w3 _ _ rfl; have hc5 := ((H4.out.trans ho).cel (by have := HB.out; have := HSZ.out.1; omega) HC5.out).below hb7; have hs7 : W7.heap.size = w3.heap.size + 1 := (by rw [← hW7]; simp); have a0 := hc5.at_ 0; have a1 := hc5.at_ 1; have a2 := hc5.at_ 2; have a3 := hc5.at_ 3; have a4 := hc5.at_ 4; have a5 := hc5.at_ 5; have a6 := hc5.at_ 6; have d0 := hd7.at_ 0; have d1 := hd7.at_ 1; have d2 := hd7.at_ 2; have d3 := hd7.at_ 3; have d4 := hd7.at_ 4; have d5 := hd7.at_ 5; have d6 := hd7.at_ 6; obtain ⟨W8, hW8⟩ : ∃ W8, W7.alloc (.cells #[.int .i64 k, .int .i64 o, .int .i64 vk, .int .i64 vn, .string vs, .string nm, .slice A1 m1 c1, .int .i64 k', .int .i64 o', .int .i64 vk', .int .i64 vn', .string vs', .string nm', .slice A2 m2 c2] tE) = W8 := ⟨_, rfl⟩; have hc58 : Cel W8 w1.heap.size tE #[.int .i64 k, .int .i64 o, .int .i64 vk, .int .i64 vn, .string vs, .string nm, .slice A1 m1 c1] := hW8 ▸ hc5.alloc _; have f5 := fun i => hc58.open_ i; have z0 := hc58.at_ 0; have z1 := hc58.at_ 1; have z2 := hc58.at_ 2; have z3 := hc58.at_ 3; have z4 := hc58.at_ 4; have z5 := hc58.at_ 5; have z6 := hc58.at_ 6; have H8 := Lib.hid (And.intro hW7 hW8); clear hy hz hg ho hb7 hd7 hc5 hc58 hsz2))
      go_roundg m
      case measure => omega
      case rel =>
        obtain ⟨hW7, hW8⟩ := H8.out
        obtain ⟨W8', hW, g1, g2, g3, g4, g5, g6⟩ := H6.out
        have hg := H7.out
        obtain rfl : W8' = W8 := by rw [← hW, ← hW8, ← hW7]
        refine ⟨bin op x y, _, _, _, _, _, _, _, _, _, s, e2, Lib.hid (by have := HK.out; omega), Lib.hid ?_, Lib.hid (hg.lt HIN2.out H992.out), Lib.hid g1, Lib.hid g2, Lib.hid g3, Lib.hid g4, Lib.hid g5, Lib.hid ⟨HSZ.out.1, g6⟩⟩
        have hrr := HR1.out
        cases h1 : rankP (Ts L) m 3 (q + 1) with
        | ok y' s' =>
          rw [h1] at hg hrr
          obtain ⟨rfl, rfl, rfl⟩ := hg
          exact .inl ⟨rfl, hrr⟩
        | err c s' =>
          rw [h1] at hg hrr
          obtain ⟨rfl, rfl, h0⟩ := hg
          exact .inr ⟨h0, hrr.symm⟩

set_option maxRecDepth 100000 in
set_option maxHeartbeats 4000000 in
theorem rankR_5 {B n c N : Nat} {A : Option Addr} {L : List To} (hop : ∀ m, m ≤ N → ReadsR 24 #[pV B, .int .i64 6] B A n c L (fun p => rankP (Ts L) m 6 p)) (hL : Rts L) (hn : n = L.length) : ReadsR 24 #[pV B, .int .i64 5] B A n c L (fun p => rankP (Ts L) (N + 1) 5 p) := by
  intro w p h hE hp h99
  obtain ⟨R, hR⟩ : ∃ R, rankP (Ts L) (N + 1) 5 p = R := ⟨_, rfl⟩
  replace h99 : ∀ q, R ≠ .err 99 q := fun q => by rw [← hR]; exact h99 q
  show Calls Tryz.prog 24 #[pV B, .int .i64 5] w (Gives w B (.slice A n c) (rankP (Ts L) (N + 1) 5 p))
  rw [hR]
  rw [rankP, if_neg (by decide), if_neg (by decide), if_neg (by decide), if_neg (by decide)] at hR
  have hB := h.lt
  have h99' := no99_bind (fun q' => by rw [hR]; exact h99 q')
  obtain ⟨W0, hW0⟩ : ∃ W0, w.alloc (.cells zC.toArray tE) = W0 := ⟨_, rfl⟩
  have hb0 : Below w.heap.size w W0 := hW0 ▸ al (Below.refl _ _) _
  have hO0 := Oth.of hb0 (Nat.le_of_lt hB)
  have hz0 := h.below hb0
  have hc0 : Cel W0 w.heap.size tE zC.toArray := hW0 ▸ Cel.new w _ _ rfl
  have hs0 : W0.heap.size = w.heap.size + 1 := by rw [← hW0]; simp
  have r2 := hz0.at_ 2
  have H0 := Lib.hid ((hop N (Nat.le_refl _)).got hz0 (hE.oth hO0) hp rfl h99')
  have HIN := Lib.hid ((inner hL.2.2 N).rank 6 p (by rw [Ts_len]; exact hp))
  have H991 := Lib.hid h99'
  have HO0 := Lib.hid hO0
  have HC0 := Lib.hid hc0
  have HS0 := Lib.hid hs0
  have HRR := Lib.hid hR
  have HOP := Lib.hid hop
  have HE := Lib.hid hE
  have HL := Lib.hid hL
  have HN := Lib.hid hn
  have HB := Lib.hid hB
  have H99 := Lib.hid h99
  clear h hE hop hR hL hn hp h99 h99' hb0 hO0 hz0 hc0 hs0 hB
  go_enter Tryz.func24, Tryz.ntmps24
  go_wp2_with (go_at_call 24; (refine H0.out.mono ?_); rintro e' w1 ⟨x, k, o, vk, vn, vs, nm, A1, m1, c1, q, e, rfl, hx, hz, hg, ho⟩; have H1 := Lib.hid (And.intro hx (And.intro hz (And.intro hg ho))); clear hx hz hg ho)
  go_loopg [6] N (fun gk _o wr => ∃ (x : Ex) (k o vk vn : Int) (vs nm : ByteArray) (A1 : Option Addr) (m1 c1 : Nat) (q : Nat) (e : Int), Hid (gk ≤ N) ∧ Hid (RowSt (Ts L) 5 gk R x q e) ∧ Hid (q < L.length) ∧ Hid (Rz wr B (.slice A n c) q e) ∧ Hid (Cel wr w1.heap.size tE #[.int .i64 k, .int .i64 o, .int .i64 vk, .int .i64 vn, .string vs, .string nm, .slice A1 m1 c1]) ∧ Hid (Cel wr w.heap.size tE zC.toArray) ∧ Hid (ExIn wr (fun b => w.heap.size < b ∧ b < wr.heap.size ∧ b ≠ w1.heap.size) x [.int .i64 k, .int .i64 o, .int .i64 vk, .int .i64 vn, .string vs, .string nm, .slice A1 m1 c1]) ∧ Hid (Oth B w wr) ∧ Hid (w.heap.size < w1.heap.size ∧ w1.heap.size < wr.heap.size))
  case atStart =>
    obtain ⟨hx, hz, hg, ho⟩ := H1.out
    have hs1 := ho.size
    have hs0 := HS0.out
    have hb := al (Below.refl w1.heap.size w1) (.cells #[.int .i64 k, .int .i64 o, .int .i64 vk, .int .i64 vn, .string vs, .string nm, .slice A1 m1 c1] tE)
    have hq : q < L.length := hg.lt HIN.out H991.out
    have hB := HB.out
    refine ⟨x, k, o, vk, vn, vs, nm, A1, m1, c1, q, e, Lib.hid (Nat.le_refl _), Lib.hid ?_, Lib.hid hq, Lib.hid (hz.below hb), Lib.hid (Cel.new w1 _ _ rfl), Lib.hid ((ho.cel (by omega) HC0.out).below hb), Lib.hid (ExIn.to (fun b hb' => ⟨by omega, by simp; omega, by omega⟩) (fun p hp => hb.cell (p := p) hp.2) _ _ hx), Lib.hid ((HO0.out.trans ho).trans (Oth.of hb (by omega))), Lib.hid ⟨by omega, by simp⟩⟩
    have hrr := HRR.out
    cases h1 : rankP (Ts L) N 6 p with
    | ok y s =>
      rw [h1] at hg hrr
      obtain ⟨rfl, rfl, rfl⟩ := hg
      exact .inl ⟨rfl, hrr⟩
    | err c s =>
      rw [h1] at hg hrr
      obtain ⟨rfl, rfl, h0⟩ := hg
      exact .inr ⟨h0, hrr.symm⟩
  case round =>
    obtain ⟨x, k, o, vk, vn, vs, nm, A1, m1, c1, q, e, HK, HST, HQ, HZ, HC5, HC4, HX, HO, HSZ⟩ := hrel
    have r2 := HZ.out.at_ 2
    by_cases he : e = 0
    case neg =>
      have te : (e == 0) = false := beq_no he
      have HF := Lib.hid (show GotR R x q e from by
        rcases HST.out with ⟨h, _⟩ | ⟨_, h⟩
        · exact absurd h he
        · rw [h]; exact ⟨rfl, rfl, he⟩)
      have f5 := fun i => HC5.out.open_ i
      have a0 := HC5.out.at_ 0
      have a1 := HC5.out.at_ 1
      have a2 := HC5.out.at_ 2
      have a3 := HC5.out.at_ 3
      have a4 := HC5.out.at_ 4
      have a5 := HC5.out.at_ 5
      have a6 := HC5.out.at_ 6
      have b0 := HC4.out.at_ 0
      have b1 := HC4.out.at_ 1
      have b2 := HC4.out.at_ 2
      have b3 := HC4.out.at_ 3
      have b4 := HC4.out.at_ 4
      have b5 := HC4.out.at_ 5
      have b6 := HC4.out.at_ 6
      have f4 := fun i => HC4.out.open_ i
      clear he
      go_wp2_with fail
      (try simp only [Exit.inBlock, Exit.then])
      refine bodyPost_ret (v := .agg #[.int .i64 k, .int .i64 o, .int .i64 vk, .int .i64 vn, .string vs, .string nm, .slice A1 m1 c1]) ?_ rfl ?_
      · simp only [results, Tryz.f24]
        go_simp
      exact gives_put HB.out (HX.out.more fun b hb => ⟨hb.1, hb.2.1⟩) HZ.out HF.out HO.out
    subst he
    cases gk with
    | zero =>
      rcases HST.out with ⟨_, h⟩ | ⟨h, _⟩
      · rw [loopP] at h
        exact absurd h.symm (H99.out q)
      · exact absurd rfl h
    | succ m =>
    have hr1 : loopP (Ts L) (m + 1) 5 x q = R := by
      rcases HST.out with ⟨_, h⟩ | ⟨h, _⟩
      · exact h
      · exact absurd rfl h
    rw [loopP] at hr1
    have hwn := HN.out
    have HSG := Lib.hid (show Calls Tryz.prog 43 #[pV B, .int .i64 5] wr _ from signR_any HZ.out (HE.out.oth HO.out) HL.out hwn HQ.out 5)
    by_cases hs : sgAt (Ts L) 5 q = 0
    · rw [if_pos hs] at hr1
      rw [if_pos rfl, if_neg (fun g => g.2 hs), hs] at HSG
      have HF := Lib.hid (show GotR R x q 0 from by rw [← hr1]; exact ⟨rfl, rfl, rfl⟩)
      clear hs hr1 hwn
      go_wp2_with (go_at_call 43; (refine HSG.out.mono ?_); rintro e' w2 ⟨rfl, h1, h2⟩; have H3 := Lib.hid h1; have H4 := Lib.hid h2; have hc5 := h2.cel (by have := HB.out; have := HSZ.out.1; omega) HC5.out; have hc4 := h2.cel (by have := HB.out; omega) HC4.out; have f5 := fun i => hc5.open_ i; have f4 := fun i => hc4.open_ i; have a0 := hc5.at_ 0; have b0 := hc4.at_ 0; have a1 := hc5.at_ 1; have b1 := hc4.at_ 1; have a2 := hc5.at_ 2; have b2 := hc4.at_ 2; have a3 := hc5.at_ 3; have b3 := hc4.at_ 3; have a4 := hc5.at_ 4; have b4 := hc4.at_ 4; have a5 := hc5.at_ 5; have b5 := hc4.at_ 5; have a6 := hc5.at_ 6; have b6 := hc4.at_ 6; clear h1 h2 hc5 hc4)
      (try simp only [Exit.inBlock, Exit.then])
      refine bodyPost_ret (v := .agg #[.int .i64 k, .int .i64 o, .int .i64 vk, .int .i64 vn, .string vs, .string nm, .slice A1 m1 c1]) ?_ rfl ?_
      · simp only [results, Tryz.f24]
        go_simp
      exact gives_put HB.out (ExIn.to (fun b hb => ⟨hb.1, Nat.lt_of_lt_of_le hb.2.1 H4.out.size⟩) (fun p hp => World.cell?_of_block (H4.out.2 p.block hp.2.1 (by have := hp.1; have := HB.out; omega))) _ _ HX.out) H3.out HF.out (HO.out.trans H4.out)
    · rw [if_neg hs] at hr1
      have hq1 : q + 1 < L.length := by have := HL.out.2.2.sg (by rw [Ts_len]; exact HQ.out) hs; rwa [Ts_len] at this
      have h99' := no99_bind (fun q' => by rw [hr1]; exact H99.out q')
      have HIN2 := Lib.hid ((inner HL.out.2.2 m).rank 6 (q + 1) (by rw [Ts_len]; exact hq1))
      obtain ⟨op, hop⟩ : ∃ op, sgAt (Ts L) 5 q = op := ⟨_, rfl⟩
      rw [if_pos rfl, if_pos ⟨rfl, hs⟩, hop] at HSG
      rw [hop] at hr1 hs
      have t0 : (op == 0) = false := beq_no hs
      have HO2 := Lib.hid (show ∀ W, Rz W B (.slice A n c) (q + 1) 0 → Oth B wr W → Calls Tryz.prog 24 #[pV B, .int .i64 6] W (Gives W B (.slice A n c) (rankP (Ts L) m 6 (q + 1))) from fun W hW hb => (HOP.out m (by have := HK.out; omega)).got hW ((HE.out.oth HO.out).oth hb) hq1 rfl h99')
      have HR1 := Lib.hid hr1
      have H992 := Lib.hid h99'
      clear hs hr1 hwn h99' hop hq1
      go_wp2_with (first
        | (go_at_call 43; (refine HSG.out.mono ?_); rintro e' w2 ⟨rfl, h1, h2⟩; have H3 := Lib.hid h1; have H4 := Lib.hid h2; clear h1 h2)
        | (go_at_call 24; (refine (HO2.out _ H3.out H4.out).mono ?_); rintro e' w3 ⟨y, k', o', vk', vn', vs', nm', A2, m2, c2, s, e2, rfl, hy, hz, hg, ho⟩; have hsz2 := H4.out.size; have H6 := Lib.hid (row_put (op := op) (y := y) HB.out HSZ.out.1 HSZ.out.2 HO.out (H4.out.trans ho) HC4.out HC5.out HX.out (hy.more fun b hb => ⟨Nat.le_trans hsz2 hb.1, hb.2⟩) hz); have H7 := Lib.hid hg; have hb7 := al (Below.refl w3.heap.size w3) (.cells #[.int .i64 k', .int .i64 o', .int .i64 vk', .int .i64 vn', .string vs', .string nm', .slice A2 m2 c2] tE); obtain ⟨W7, hW7⟩ : ∃ W7, w3.alloc (.cells #[.int .i64 k', .int .i64 o', .int .i64 vk', .int .i64 vn', .string vs', .string nm', .slice A2 m2 c2] tE) = W7 := ⟨_, rfl⟩; rw [hW7] at hb7; have hd7 : Cel W7 w3.heap.size tE #[.int .i64 k', .int .i64 o', .int .i64 vk', .int .i64 vn', .string vs', .string nm', .slice A2 m2 c2] := hW7 ▸ Cel.new w3 _ _ rfl; have hc5 := ((H4.out.trans ho).cel (by have := HB.out; have := HSZ.out.1; omega) HC5.out).below hb7; have hs7 : W7.heap.size = w3.heap.size + 1 := (by rw [← hW7]; simp); have a0 := hc5.at_ 0; have a1 := hc5.at_ 1; have a2 := hc5.at_ 2; have a3 := hc5.at_ 3; have a4 := hc5.at_ 4; have a5 := hc5.at_ 5; have a6 := hc5.at_ 6; have d0 := hd7.at_ 0; have d1 := hd7.at_ 1; have d2 := hd7.at_ 2; have d3 := hd7.at_ 3; have d4 := hd7.at_ 4; have d5 := hd7.at_ 5; have d6 := hd7.at_ 6; obtain ⟨W8, hW8⟩ : ∃ W8, W7.alloc (.cells #[.int .i64 k, .int .i64 o, .int .i64 vk, .int .i64 vn, .string vs, .string nm, .slice A1 m1 c1, .int .i64 k', .int .i64 o', .int .i64 vk', .int .i64 vn', .string vs', .string nm', .slice A2 m2 c2] tE) = W8 := ⟨_, rfl⟩; have hc58 : Cel W8 w1.heap.size tE #[.int .i64 k, .int .i64 o, .int .i64 vk, .int .i64 vn, .string vs, .string nm, .slice A1 m1 c1] := hW8 ▸ hc5.alloc _; have f5 := fun i => hc58.open_ i; have z0 := hc58.at_ 0; have z1 := hc58.at_ 1; have z2 := hc58.at_ 2; have z3 := hc58.at_ 3; have z4 := hc58.at_ 4; have z5 := hc58.at_ 5; have z6 := hc58.at_ 6; have H8 := Lib.hid (And.intro hW7 hW8); clear hy hz hg ho hb7 hd7 hc5 hc58 hsz2))
      go_roundg m
      case measure => omega
      case rel =>
        obtain ⟨hW7, hW8⟩ := H8.out
        obtain ⟨W8', hW, g1, g2, g3, g4, g5, g6⟩ := H6.out
        have hg := H7.out
        obtain rfl : W8' = W8 := by rw [← hW, ← hW8, ← hW7]
        refine ⟨bin op x y, _, _, _, _, _, _, _, _, _, s, e2, Lib.hid (by have := HK.out; omega), Lib.hid ?_, Lib.hid (hg.lt HIN2.out H992.out), Lib.hid g1, Lib.hid g2, Lib.hid g3, Lib.hid g4, Lib.hid g5, Lib.hid ⟨HSZ.out.1, g6⟩⟩
        have hrr := HR1.out
        cases h1 : rankP (Ts L) m 6 (q + 1) with
        | ok y' s' =>
          rw [h1] at hg hrr
          obtain ⟨rfl, rfl, rfl⟩ := hg
          exact .inl ⟨rfl, hrr⟩
        | err c s' =>
          rw [h1] at hg hrr
          obtain ⟨rfl, rfl, h0⟩ := hg
          exact .inr ⟨h0, hrr.symm⟩

set_option maxRecDepth 100000 in
set_option maxHeartbeats 4000000 in
theorem rankR_6 {B n c N : Nat} {A : Option Addr} {L : List To} (hop : ∀ m, m ≤ N → ReadsR 24 #[pV B, .int .i64 7] B A n c L (fun p => rankP (Ts L) m 7 p)) (hL : Rts L) (hn : n = L.length) : ReadsR 24 #[pV B, .int .i64 6] B A n c L (fun p => rankP (Ts L) (N + 1) 6 p) := by
  intro w p h hE hp h99
  obtain ⟨R, hR⟩ : ∃ R, rankP (Ts L) (N + 1) 6 p = R := ⟨_, rfl⟩
  replace h99 : ∀ q, R ≠ .err 99 q := fun q => by rw [← hR]; exact h99 q
  show Calls Tryz.prog 24 #[pV B, .int .i64 6] w (Gives w B (.slice A n c) (rankP (Ts L) (N + 1) 6 p))
  rw [hR]
  rw [rankP, if_neg (by decide), if_neg (by decide), if_neg (by decide), if_neg (by decide)] at hR
  have hB := h.lt
  have h99' := no99_bind (fun q' => by rw [hR]; exact h99 q')
  obtain ⟨W0, hW0⟩ : ∃ W0, w.alloc (.cells zC.toArray tE) = W0 := ⟨_, rfl⟩
  have hb0 : Below w.heap.size w W0 := hW0 ▸ al (Below.refl _ _) _
  have hO0 := Oth.of hb0 (Nat.le_of_lt hB)
  have hz0 := h.below hb0
  have hc0 : Cel W0 w.heap.size tE zC.toArray := hW0 ▸ Cel.new w _ _ rfl
  have hs0 : W0.heap.size = w.heap.size + 1 := by rw [← hW0]; simp
  have r2 := hz0.at_ 2
  have H0 := Lib.hid ((hop N (Nat.le_refl _)).got hz0 (hE.oth hO0) hp rfl h99')
  have HIN := Lib.hid ((inner hL.2.2 N).rank 7 p (by rw [Ts_len]; exact hp))
  have H991 := Lib.hid h99'
  have HO0 := Lib.hid hO0
  have HC0 := Lib.hid hc0
  have HS0 := Lib.hid hs0
  have HRR := Lib.hid hR
  have HOP := Lib.hid hop
  have HE := Lib.hid hE
  have HL := Lib.hid hL
  have HN := Lib.hid hn
  have HB := Lib.hid hB
  have H99 := Lib.hid h99
  clear h hE hop hR hL hn hp h99 h99' hb0 hO0 hz0 hc0 hs0 hB
  go_enter Tryz.func24, Tryz.ntmps24
  go_wp2_with (go_at_call 24; (refine H0.out.mono ?_); rintro e' w1 ⟨x, k, o, vk, vn, vs, nm, A1, m1, c1, q, e, rfl, hx, hz, hg, ho⟩; have H1 := Lib.hid (And.intro hx (And.intro hz (And.intro hg ho))); clear hx hz hg ho)
  go_loopg [6] N (fun gk _o wr => ∃ (x : Ex) (k o vk vn : Int) (vs nm : ByteArray) (A1 : Option Addr) (m1 c1 : Nat) (q : Nat) (e : Int), Hid (gk ≤ N) ∧ Hid (RowSt (Ts L) 6 gk R x q e) ∧ Hid (q < L.length) ∧ Hid (Rz wr B (.slice A n c) q e) ∧ Hid (Cel wr w1.heap.size tE #[.int .i64 k, .int .i64 o, .int .i64 vk, .int .i64 vn, .string vs, .string nm, .slice A1 m1 c1]) ∧ Hid (Cel wr w.heap.size tE zC.toArray) ∧ Hid (ExIn wr (fun b => w.heap.size < b ∧ b < wr.heap.size ∧ b ≠ w1.heap.size) x [.int .i64 k, .int .i64 o, .int .i64 vk, .int .i64 vn, .string vs, .string nm, .slice A1 m1 c1]) ∧ Hid (Oth B w wr) ∧ Hid (w.heap.size < w1.heap.size ∧ w1.heap.size < wr.heap.size))
  case atStart =>
    obtain ⟨hx, hz, hg, ho⟩ := H1.out
    have hs1 := ho.size
    have hs0 := HS0.out
    have hb := al (Below.refl w1.heap.size w1) (.cells #[.int .i64 k, .int .i64 o, .int .i64 vk, .int .i64 vn, .string vs, .string nm, .slice A1 m1 c1] tE)
    have hq : q < L.length := hg.lt HIN.out H991.out
    have hB := HB.out
    refine ⟨x, k, o, vk, vn, vs, nm, A1, m1, c1, q, e, Lib.hid (Nat.le_refl _), Lib.hid ?_, Lib.hid hq, Lib.hid (hz.below hb), Lib.hid (Cel.new w1 _ _ rfl), Lib.hid ((ho.cel (by omega) HC0.out).below hb), Lib.hid (ExIn.to (fun b hb' => ⟨by omega, by simp; omega, by omega⟩) (fun p hp => hb.cell (p := p) hp.2) _ _ hx), Lib.hid ((HO0.out.trans ho).trans (Oth.of hb (by omega))), Lib.hid ⟨by omega, by simp⟩⟩
    have hrr := HRR.out
    cases h1 : rankP (Ts L) N 7 p with
    | ok y s =>
      rw [h1] at hg hrr
      obtain ⟨rfl, rfl, rfl⟩ := hg
      exact .inl ⟨rfl, hrr⟩
    | err c s =>
      rw [h1] at hg hrr
      obtain ⟨rfl, rfl, h0⟩ := hg
      exact .inr ⟨h0, hrr.symm⟩
  case round =>
    obtain ⟨x, k, o, vk, vn, vs, nm, A1, m1, c1, q, e, HK, HST, HQ, HZ, HC5, HC4, HX, HO, HSZ⟩ := hrel
    have r2 := HZ.out.at_ 2
    by_cases he : e = 0
    case neg =>
      have te : (e == 0) = false := beq_no he
      have HF := Lib.hid (show GotR R x q e from by
        rcases HST.out with ⟨h, _⟩ | ⟨_, h⟩
        · exact absurd h he
        · rw [h]; exact ⟨rfl, rfl, he⟩)
      have f5 := fun i => HC5.out.open_ i
      have a0 := HC5.out.at_ 0
      have a1 := HC5.out.at_ 1
      have a2 := HC5.out.at_ 2
      have a3 := HC5.out.at_ 3
      have a4 := HC5.out.at_ 4
      have a5 := HC5.out.at_ 5
      have a6 := HC5.out.at_ 6
      have b0 := HC4.out.at_ 0
      have b1 := HC4.out.at_ 1
      have b2 := HC4.out.at_ 2
      have b3 := HC4.out.at_ 3
      have b4 := HC4.out.at_ 4
      have b5 := HC4.out.at_ 5
      have b6 := HC4.out.at_ 6
      have f4 := fun i => HC4.out.open_ i
      clear he
      go_wp2_with fail
      (try simp only [Exit.inBlock, Exit.then])
      refine bodyPost_ret (v := .agg #[.int .i64 k, .int .i64 o, .int .i64 vk, .int .i64 vn, .string vs, .string nm, .slice A1 m1 c1]) ?_ rfl ?_
      · simp only [results, Tryz.f24]
        go_simp
      exact gives_put HB.out (HX.out.more fun b hb => ⟨hb.1, hb.2.1⟩) HZ.out HF.out HO.out
    subst he
    cases gk with
    | zero =>
      rcases HST.out with ⟨_, h⟩ | ⟨h, _⟩
      · rw [loopP] at h
        exact absurd h.symm (H99.out q)
      · exact absurd rfl h
    | succ m =>
    have hr1 : loopP (Ts L) (m + 1) 6 x q = R := by
      rcases HST.out with ⟨_, h⟩ | ⟨h, _⟩
      · exact h
      · exact absurd rfl h
    rw [loopP] at hr1
    have hwn := HN.out
    have HSG := Lib.hid (show Calls Tryz.prog 43 #[pV B, .int .i64 6] wr _ from signR_any HZ.out (HE.out.oth HO.out) HL.out hwn HQ.out 6)
    by_cases hs : sgAt (Ts L) 6 q = 0
    · rw [if_pos hs] at hr1
      rw [if_pos rfl, if_neg (fun g => g.2 hs), hs] at HSG
      have HF := Lib.hid (show GotR R x q 0 from by rw [← hr1]; exact ⟨rfl, rfl, rfl⟩)
      clear hs hr1 hwn
      go_wp2_with (go_at_call 43; (refine HSG.out.mono ?_); rintro e' w2 ⟨rfl, h1, h2⟩; have H3 := Lib.hid h1; have H4 := Lib.hid h2; have hc5 := h2.cel (by have := HB.out; have := HSZ.out.1; omega) HC5.out; have hc4 := h2.cel (by have := HB.out; omega) HC4.out; have f5 := fun i => hc5.open_ i; have f4 := fun i => hc4.open_ i; have a0 := hc5.at_ 0; have b0 := hc4.at_ 0; have a1 := hc5.at_ 1; have b1 := hc4.at_ 1; have a2 := hc5.at_ 2; have b2 := hc4.at_ 2; have a3 := hc5.at_ 3; have b3 := hc4.at_ 3; have a4 := hc5.at_ 4; have b4 := hc4.at_ 4; have a5 := hc5.at_ 5; have b5 := hc4.at_ 5; have a6 := hc5.at_ 6; have b6 := hc4.at_ 6; clear h1 h2 hc5 hc4)
      (try simp only [Exit.inBlock, Exit.then])
      refine bodyPost_ret (v := .agg #[.int .i64 k, .int .i64 o, .int .i64 vk, .int .i64 vn, .string vs, .string nm, .slice A1 m1 c1]) ?_ rfl ?_
      · simp only [results, Tryz.f24]
        go_simp
      exact gives_put HB.out (ExIn.to (fun b hb => ⟨hb.1, Nat.lt_of_lt_of_le hb.2.1 H4.out.size⟩) (fun p hp => World.cell?_of_block (H4.out.2 p.block hp.2.1 (by have := hp.1; have := HB.out; omega))) _ _ HX.out) H3.out HF.out (HO.out.trans H4.out)
    · rw [if_neg hs] at hr1
      have hq1 : q + 1 < L.length := by have := HL.out.2.2.sg (by rw [Ts_len]; exact HQ.out) hs; rwa [Ts_len] at this
      have h99' := no99_bind (fun q' => by rw [hr1]; exact H99.out q')
      have HIN2 := Lib.hid ((inner HL.out.2.2 m).rank 7 (q + 1) (by rw [Ts_len]; exact hq1))
      obtain ⟨op, hop⟩ : ∃ op, sgAt (Ts L) 6 q = op := ⟨_, rfl⟩
      rw [if_pos rfl, if_pos ⟨rfl, hs⟩, hop] at HSG
      rw [hop] at hr1 hs
      have t0 : (op == 0) = false := beq_no hs
      have HO2 := Lib.hid (show ∀ W, Rz W B (.slice A n c) (q + 1) 0 → Oth B wr W → Calls Tryz.prog 24 #[pV B, .int .i64 7] W (Gives W B (.slice A n c) (rankP (Ts L) m 7 (q + 1))) from fun W hW hb => (HOP.out m (by have := HK.out; omega)).got hW ((HE.out.oth HO.out).oth hb) hq1 rfl h99')
      have HR1 := Lib.hid hr1
      have H992 := Lib.hid h99'
      clear hs hr1 hwn h99' hop hq1
      go_wp2_with (first
        | (go_at_call 43; (refine HSG.out.mono ?_); rintro e' w2 ⟨rfl, h1, h2⟩; have H3 := Lib.hid h1; have H4 := Lib.hid h2; clear h1 h2)
        | (go_at_call 24; (refine (HO2.out _ H3.out H4.out).mono ?_); rintro e' w3 ⟨y, k', o', vk', vn', vs', nm', A2, m2, c2, s, e2, rfl, hy, hz, hg, ho⟩; have hsz2 := H4.out.size; have H6 := Lib.hid (row_put (op := op) (y := y) HB.out HSZ.out.1 HSZ.out.2 HO.out (H4.out.trans ho) HC4.out HC5.out HX.out (hy.more fun b hb => ⟨Nat.le_trans hsz2 hb.1, hb.2⟩) hz); have H7 := Lib.hid hg; have hb7 := al (Below.refl w3.heap.size w3) (.cells #[.int .i64 k', .int .i64 o', .int .i64 vk', .int .i64 vn', .string vs', .string nm', .slice A2 m2 c2] tE); obtain ⟨W7, hW7⟩ : ∃ W7, w3.alloc (.cells #[.int .i64 k', .int .i64 o', .int .i64 vk', .int .i64 vn', .string vs', .string nm', .slice A2 m2 c2] tE) = W7 := ⟨_, rfl⟩; rw [hW7] at hb7; have hd7 : Cel W7 w3.heap.size tE #[.int .i64 k', .int .i64 o', .int .i64 vk', .int .i64 vn', .string vs', .string nm', .slice A2 m2 c2] := hW7 ▸ Cel.new w3 _ _ rfl; have hc5 := ((H4.out.trans ho).cel (by have := HB.out; have := HSZ.out.1; omega) HC5.out).below hb7; have hs7 : W7.heap.size = w3.heap.size + 1 := (by rw [← hW7]; simp); have a0 := hc5.at_ 0; have a1 := hc5.at_ 1; have a2 := hc5.at_ 2; have a3 := hc5.at_ 3; have a4 := hc5.at_ 4; have a5 := hc5.at_ 5; have a6 := hc5.at_ 6; have d0 := hd7.at_ 0; have d1 := hd7.at_ 1; have d2 := hd7.at_ 2; have d3 := hd7.at_ 3; have d4 := hd7.at_ 4; have d5 := hd7.at_ 5; have d6 := hd7.at_ 6; obtain ⟨W8, hW8⟩ : ∃ W8, W7.alloc (.cells #[.int .i64 k, .int .i64 o, .int .i64 vk, .int .i64 vn, .string vs, .string nm, .slice A1 m1 c1, .int .i64 k', .int .i64 o', .int .i64 vk', .int .i64 vn', .string vs', .string nm', .slice A2 m2 c2] tE) = W8 := ⟨_, rfl⟩; have hc58 : Cel W8 w1.heap.size tE #[.int .i64 k, .int .i64 o, .int .i64 vk, .int .i64 vn, .string vs, .string nm, .slice A1 m1 c1] := hW8 ▸ hc5.alloc _; have f5 := fun i => hc58.open_ i; have z0 := hc58.at_ 0; have z1 := hc58.at_ 1; have z2 := hc58.at_ 2; have z3 := hc58.at_ 3; have z4 := hc58.at_ 4; have z5 := hc58.at_ 5; have z6 := hc58.at_ 6; have H8 := Lib.hid (And.intro hW7 hW8); clear hy hz hg ho hb7 hd7 hc5 hc58 hsz2))
      go_roundg m
      case measure => omega
      case rel =>
        obtain ⟨hW7, hW8⟩ := H8.out
        obtain ⟨W8', hW, g1, g2, g3, g4, g5, g6⟩ := H6.out
        have hg := H7.out
        obtain rfl : W8' = W8 := by rw [← hW, ← hW8, ← hW7]
        refine ⟨bin op x y, _, _, _, _, _, _, _, _, _, s, e2, Lib.hid (by have := HK.out; omega), Lib.hid ?_, Lib.hid (hg.lt HIN2.out H992.out), Lib.hid g1, Lib.hid g2, Lib.hid g3, Lib.hid g4, Lib.hid g5, Lib.hid ⟨HSZ.out.1, g6⟩⟩
        have hrr := HR1.out
        cases h1 : rankP (Ts L) m 7 (q + 1) with
        | ok y' s' =>
          rw [h1] at hg hrr
          obtain ⟨rfl, rfl, rfl⟩ := hg
          exact .inl ⟨rfl, hrr⟩
        | err c s' =>
          rw [h1] at hg hrr
          obtain ⟨rfl, rfl, h0⟩ := hg
          exact .inr ⟨h0, hrr.symm⟩
end Go.Proofs.YtlkmhdbmcfblkaaGreatDoor.Ep
