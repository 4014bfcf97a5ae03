/- Something is done to a tree: the topmost node is mended. -/
import Derived.Test.YtjlfacmmokfleaaBtTree
import Derived.Test.YtjlfacmmokfleaaBtSmall
namespace Go.Proofs.Ytjlfacmmokfleaa.Bt
open Go.RowKit Go.Proofs.Ytjlfacmmokfleaa.Mem Go.Proofs.Ytjlfacmmokfleaa.Right
set_option linter.unusedVariables false

/-- What Tree.change tells, and leaves. -/
def TG (w0 w : World) (tb d : Nat) (m : Mt (d + 1)) {p : Kn} (D : Deed p) (q : Bool) (e : Ending) (w' : World) : Prop :=
  e = .returned (.bool q) ∧ (q = false → Below w.heap.size w w') ∧ (q = true → ∃ x, x.k = p ∧ Fresh w0.heap.size x ∧ TDone w w' tb d m (D.go x (prs (d + 1) m)))
theorem TDone.base {w w1 w' : World} {tb d : Nat} {m : Mt (d + 1)} {ps : List Pr} (h : TDone w1 w' tb d m ps) (hb : Below w.heap.size w w1) : TDone w w' tb d m ps := by
  obtain ⟨d', m', h1, h2, h3, h4⟩ := h
  exact ⟨d', m', h1, h2, fun y hy => (h3 y hy).imp id (fun e => Nat.le_trans hb.size e), (Fr.of hb).trans h4⟩
theorem TDone.on {w w1 w' : World} {tb d : Nat} {m : Mt (d + 1)} {ps : List Pr} (h : TDone w w1 tb d m ps) (hb : Below w1.heap.size w1 w') : TDone w w' tb d m ps := by
  obtain ⟨d', m', h1, h2, h3, h4⟩ := h
  exact ⟨d', m', h1.below hb, h2, h3, h4.on hb⟩
set_option maxHeartbeats 4000000 in
theorem tchange_any (tb d : Nat) (m : Mt (d + 1)) (F : FuncId) (c1 c2 : Value) (p : Pr) (D : Deed p.k) (q : Bool) (w : World) (h : TR w tb d m) (hdo : DoC w tb (.pointer (some ⟨nb m, 0, none⟩)) ((prs (d + 1) m).length : Int) F c1 c2 D) (hp : KeyA w p) (hq : D.yes (prs (d + 1) m) = q)
    (hF : ∀ (args : Array Value) (w : World), (callFunc F args).run Try.prog w = .ok (.enter F args) w) :
    Calls Try.prog 36 #[.pointer (some ⟨tb, 0, none⟩), prv p, .func (.func F) #[] #[c1, c2]] w (TG w w tb d m D q) := by
  have hB := al (Below.refl w.heap.size w) (.cells #[.slice p.a p.key.length p.c, .int .i64 p.num] tP)
  have HB := Lib.hid hB
  have HBX := Lib.hid (Cel.new w tP #[.slice p.a p.key.length p.c, .int .i64 p.num] rfl)
  have H := Lib.hid h
  have HP := Lib.hid hp
  have HDO := Lib.hid hdo
  have HQ := Lib.hid hq
  clear h hp hdo hq hB
  go_enter Try.func36, Try.ntmps36
  go_upto_region 1 with (fail)
  generalize w.alloc (.cells #[.slice p.a p.key.length p.c, .int .i64 p.num] tP) = W at HB HBX ⊢
  have HBD := Lib.hid (show Below w.heap.size w W.drew from Mem.on HB.out (Below.refl _ _).drew)
  have ht := H.out.below HBD.out
  have HIH := Lib.hid (change_any w tb (.pointer (some ⟨nb m, 0, none⟩)) ((prs (d + 1) m).length : Int) F c1 c2 p D HDO.out HP.out hF d m W.drew q HBD.out ht.rep ht.one ht.out (Rep.lt _ _ H.out.rep) ht.cel ht.inn ht.two ht.le ht.sorted HQ.out)
  have p0 : W.drew.cell? ⟨w.heap.size, 0, none⟩ = some (.slice p.a p.key.length p.c) := HBX.out.at_ 0
  have p1 : W.drew.cell? ⟨w.heap.size, 1, none⟩ = some (.int .i64 p.num) := HBX.out.at_ 1
  have y0 : W.drew.cell? ⟨tb, 0, none⟩ = some (.pointer (some ⟨nb m, 0, none⟩)) := ht.cel.at_ 0
  have HMADE := Lib.hid (made_any tb (nb m) W.drew y0)
  have H2 := Lib.hid ht
  clear ht HBX HB
  refine wp_region_still_tail 10 (by kernel_rfl) (by kernel_rfl) ?_
  simp only [List.take_succ_cons, List.take_zero, List.drop_succ_cons, List.drop_zero]
  change wpStill _ _ W.drew (fun a' => wpList _ _ _ _ a' W.drew) _ _
  generalize W.drew = w3 at p0 p1 y0 HBD HIH HMADE H2 ⊢
  repeat still_step
  still_call HMADE.out
  repeat still_step
  refine wpStill_nil ?_
  cases q with
  | false =>
    go_wp2_with (go_at_call 51; (with_reducible refine HIH.out.mono ?_); rintro e w4 ⟨rfl, h1, _⟩; have HB4 := Lib.hid (h1 rfl); clear h1)
    go_ret
    exact ⟨rfl, fun _ => Mem.on HBD.out HB4.out, fun e => by cases e⟩
  | true =>
    go_upto_region 3 with (go_at_call 51; (with_reducible refine HIH.out.mono ?_); rintro e w4 ⟨rfl, _, h1⟩; obtain ⟨x, m1, hc, e1, e2⟩ := h1 rfl; have HC := Lib.hid hc; have HE1 := Lib.hid e1; have HE2 := Lib.hid e2; clear h1 hc e1 e2)
    clear p0 p1 y0 HIH HMADE
    obtain ⟨s, hs⟩ : ∃ s, sz (d + 1) m1 = s := ⟨_, rfl⟩
    have hsle : s ≤ 9 := by have := HC.out.le; have := H2.out.le; omega
    have y0 : w4.cell? ⟨tb, 0, none⟩ = some (.pointer (some ⟨nb m, 0, none⟩)) := HC.out.tree.at_ 0
    have g0 := HC.out.tree.open_ 0
    have HSI := Lib.hid (size_in m1 s w4 w4 HC.out.rep hs (by omega) (Below.refl _ _))
    rw [HC.out.b] at HSI
    have HS := Lib.hid hs
    clear hs
    have HB := Lib.hid HC.out.b
    by_cases h9 : s = 9
    · have t1 : (8 : Int) < (s : Int) := by omega
      go_upto_region 4 with (go_at_call 46; (with_reducible refine HSI.out.mono ?_); rintro e w5 ⟨rfl, q5, rfl⟩)
      have hc5 := HC.out.on (below_drewN (Below.refl w4.heap.size w4) q5)
      clear y0 g0 HC HSI
      generalize w4.drewN q5 = w5 at hc5 ⊢
      have hto := top_over HB.out H2.out hc5
      simp only at hto
      have y0 : w5.cell? ⟨tb, 0, none⟩ = some (.pointer (some ⟨nb m, 0, none⟩)) := hc5.tree.at_ 0
      have y2 : ∀ o1 o2 : Obj, ((w5.alloc o1).alloc o2).cell? ⟨tb, 0, none⟩ = some (.pointer (some ⟨nb m, 0, none⟩)) := fun o1 o2 => ((hc5.tree.alloc o1).alloc o2).at_ 0
      have g2 : ∀ o1 o2 : Obj, ((w5.alloc o1).alloc o2).frozen? ⟨tb, 0, none⟩ = false := fun o1 o2 => ((hc5.tree.alloc o1).alloc o2).open_ 0
      have HTO := Lib.hid hto
      have HC := Lib.hid hc5
      clear hc5 hto
      go_upto_region 5 with (fail)
      generalize ((w5.alloc (.cells #[.pointer (some ⟨nb m, 0, none⟩)] tK)).alloc (.cells #[.slice none 0 0, .slice (some ⟨w5.heap.size, 0, none⟩) 1 1] tN)).setCell ⟨tb, 0, none⟩ (.pointer (some ⟨w5.heap.size + 1, 0, none⟩)) = w6 at HTO ⊢
      obtain ⟨M, hM⟩ : ∃ M : Mt (d + 2), mkN (w5.heap.size + 1) (.slice none 0 0) (.slice (some ⟨w5.heap.size, 0, none⟩) 1 1) [] [m1] = M := ⟨_, rfl⟩
      have hM1 : nb M = w5.heap.size + 1 := by rw [← hM]; rfl
      have hM2 : nps M = [] := by rw [← hM]; rfl
      have hM3 : nks M = [] ++ m1 :: [] := by rw [← hM]; rfl
      rw [hM] at HTO
      obtain ⟨R, hR⟩ : ∃ R, w5.heap.size + 1 = R := ⟨_, rfl⟩
      rw [hR] at HTO hM1 ⊢
      have HSP := Lib.hid (show Calls Try.prog 52 #[.pointer (some ⟨R, 0, none⟩), .int .i64 0] w6 (SplitM w6 M [] [] m1) from by
        have := split_mt M [] [] m1 w6 HTO.out.1 HTO.out.2.1 hM3 (by have := sz_eq m1; have := HS.out; omega) (by have := sz_eq m1; have := HS.out; omega) (by rw [hM3]; simp)
        rw [hM1] at this
        exact this)
      have y3 : w6.cell? ⟨tb, 0, none⟩ = some (.pointer (some ⟨R, 0, none⟩)) := HTO.out.2.2.2.1.at_ 0
      have HM1 := Lib.hid hM1
      have HM2 := Lib.hid hM2
      clear y0 y2 g2 hM hM1 hM2 hM3 hR
      go_wp2_with (go_at_call 52; (with_reducible refine HSP.out.mono ?_); rintro e w7 ⟨rfl, M2, x1, x2, hk, s1, s2, s3, s4⟩; have HK := Lib.hid (show _ ∧ _ ∧ _ ∧ _ ∧ _ from ⟨hk, s1, s2, s3, s4⟩); clear hk s1 s2 s3 s4)
      go_ret
      refine ⟨rfl, (fun e => by cases e), fun _ => ⟨x, HE1.out, HE2.out, TDone.base ?_ HBD.out⟩⟩
      obtain ⟨_, t2, t3, t4, t5, t6⟩ := HTO.out
      obtain ⟨k1, k2, k3, k4, k5⟩ := HK.out
      exact top_split H2.out HQ.out HE1.out HC.out.prs HC.out.inn (by rw [HS.out]; omega) (by rw [HS.out]; omega) t2 t3 HM2.out (by rw [HM1.out]; exact t4) t5 t6 k1 k2 k3 k4 k5
    · have t1 : ¬ (8 : Int) < (s : Int) := by omega
      obtain ⟨Ap, cp, Ak, ck, _, _, ⟨_, z1⟩, _⟩ := HC.out.rep.node.open_
      rw [HB.out, nbs_len] at z1
      by_cases hk1 : (nks m1).length = 1
      · obtain ⟨d, rfl⟩ : ∃ d', d = d' + 1 := by
          cases d with
          | zero => rw [nks_zero m1] at hk1; simp at hk1
          | succ d => exact ⟨d, rfl⟩
        obtain ⟨k, hk⟩ : ∃ k, nks m1 = [k] := List.length_eq_one_iff.1 hk1
        obtain ⟨g, n, c, yk, ck2, tk⟩ := kid_cells HC.out.rep (i := 0) (x := k) (by rw [hk]; rfl)
        rw [HB.out, z1] at yk
        rw [hk1] at yk z1
        injection yk with yk
        injection yk with e1 e2 e3
        subst e1 e3
        have HKS := Lib.hid hk
        clear e2 hk hk1
        go_wp2_with (go_at_call 46; (with_reducible refine HSI.out.mono ?_); rintro e w5 ⟨rfl, q5, rfl⟩)
        go_ret
        refine ⟨rfl, (fun e => by cases e), fun _ => ⟨x, HE1.out, HE2.out, TDone.base ?_ HBD.out⟩⟩
        exact top_kid H2.out (HC.out.on (below_drewN (Below.refl w4.heap.size w4) q5)) HQ.out HE1.out HKS.out
      · have hkn : (((nks m1).length : Int) == 1) = false := beq_no (by omega)
        have HKN := Lib.hid hk1
        clear hk1
        go_wp2_with (go_at_call 46; (with_reducible refine HSI.out.mono ?_); rintro e w5 ⟨rfl, q5, rfl⟩)
        go_ret
        refine ⟨rfl, (fun e => by cases e), fun _ => ⟨x, HE1.out, HE2.out, TDone.base ?_ HBD.out⟩⟩
        refine top_stay H2.out (HC.out.on (below_drewN (Below.refl w4.heap.size w4) q5)) HQ.out HE1.out (by rw [HS.out]; omega) (fun hd => ?_)
        have h1 := HC.out.ge
        have h2 := H2.out.two hd
        have h3 := sz_eq m1
        have hi := HC.out.inn
        rw [inn_eq] at hi
        rw [hi.1 hd] at h3
        have h4 := HKN.out
        simp at h3
        omega
end Go.Proofs.Ytjlfacmmokfleaa.Bt
