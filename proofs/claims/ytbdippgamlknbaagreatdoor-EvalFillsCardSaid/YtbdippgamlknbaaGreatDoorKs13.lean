/- And, Or and In: what join makes of kids, with And. -/
import Derived.Laws.EntriesVeiled
import Derived.Test.YtbdippgamlknbaaGreatDoorKs10
namespace Go.Proofs.YtbdippgamlknbaaGreatDoor.Eo
open Go.RowKit Go.Proofs.YtbdippgamlknbaaGreatDoor.Mem Go.Proofs.YtbdippgamlknbaaGreatDoor.Right Go.Proofs.YtbdippgamlknbaaGreatDoor.Lx Go.Proofs.YtbdippgamlknbaaGreatDoor.Ep Go.Proofs.YtbdippgamlknbaaGreatDoor.Ev
set_option linter.unusedVariables false
set_option linter.unusedSimpArgs false
attribute [local go_sem] Oper.semAt_some
set_option maxRecDepth 100000 in
set_option maxHeartbeats 4000000 in
theorem join1_any (g : GS) (A : Option Addr) (m c : Nat) (kids : List Ex) (w : World) (hG : GIn w w.heap.size g) (hK : KidsIn w (fun b => b < w.heap.size) A 0 kids) (hm : m = kids.length) (hM : m ≤ 1000) (ih : ∀ x ∈ kids, OfC x) :
    Calls Tryz.prog 198 #[.agg g.cells, .int .i64 2, .slice A m c, .func (.func 194) #[] #[]] w (ValE w (jn 2 ofV (jst 2) (kids.map (cm g)))) := by
  have HM := Lib.hid hm
  have HRU := Lib.hid (show ∀ (v : Vv) (W : World), Below w.heap.size w W → Calls Tryz.prog 194 #[vV v] W (TruE W (ofV v)) from fun v W hW => of_is v W)
  have HT0 := Lib.hid (show ∀ W, _ from and_0)
  rw [show jst 2 = 1 from rfl] at HT0
  clear hm
  refine (callsIn_wide (n := 5)).1 ?_
  refine callsIn_of_wp_marks Tryz.func198 rfl trivial ?_ rfl
  simp only [Tryz.ntmps198, List.size_toArray, List.length_cons, List.length_nil, Nat.reduceAdd, Nat.reduceSub, Array.replicate_succ, Array.replicate_zero, List.push_toArray, List.append_toArray, List.nil_append, List.cons_append]
  gi_wp2_with (first | (refine ⟨trivial, ?_⟩; gi_at_call 242; refine (callsIn_wide.2 (values_any g _ _ _ _)).mono ?_; rintro e w' ⟨rfl, rfl⟩) | (refine ⟨trivial, ?_⟩; gi_at_call 240; refine (callsIn_wide.2 (HT0.out _)).mono ?_; rintro e w' ⟨rfl, rfl⟩))
  obtain ⟨w9, hw9⟩ : ∃ w9, ((((((((w.alloc (.cells g.cells 124)).alloc (.cells #[.func (.func 194) #[] #[]] 234)).alloc (.cells #[.int .i64 0, .int .i64 0, .string ⟨#[]⟩] 23)).alloc (.cells #[.int .i64 0] 31)).alloc (.cells #[.int .i64 0] 232)).alloc (.cells #[.func (.func 240) #[] #[]] 276)).alloc (.cells #[.int .i64 1] 232)).alloc (.cells g.cells 124)).alloc (.cells #[.slice A m c] 24) = w9 := ⟨_, rfl⟩
  have bR : Cel w9 (w.heap.size + 1) tFr #[.func (.func 194) #[] #[]] := by rw [← hw9]; exact ((((((((Cel.new (w.alloc _) _ _ (by simp)).alloc _).alloc _).alloc _).alloc _).alloc _).alloc _).alloc _)
  have bV : Cel w9 (w.heap.size + 1 + 1) tVa #[.int .i64 0, .int .i64 0, .string ⟨#[]⟩] := by rw [← hw9]; exact (((((((Cel.new ((w.alloc _).alloc _) _ _ (by simp)).alloc _).alloc _).alloc _).alloc _).alloc _).alloc _)
  have bE : Cel w9 (w.heap.size + 1 + 1 + 1) tEr #[.int .i64 0] := by rw [← hw9]; exact ((((((Cel.new (((w.alloc _).alloc _).alloc _) _ _ (by simp)).alloc _).alloc _).alloc _).alloc _).alloc _)
  have bN : Cel w9 (w.heap.size + 1 + 1 + 1 + 1) tTr #[.int .i64 (jen 2)] := by rw [← hw9]; exact (((((Cel.new ((((w.alloc _).alloc _).alloc _).alloc _) _ _ (by simp)).alloc _).alloc _).alloc _).alloc _)
  have bT : Cel w9 (w.heap.size + 1 + 1 + 1 + 1 + 1) tFt #[.func (.func 240) #[] #[]] := by rw [← hw9]; exact ((((Cel.new (((((w.alloc _).alloc _).alloc _).alloc _).alloc _) _ _ (by simp)).alloc _).alloc _).alloc _)
  have bA : Cel w9 (w.heap.size + 1 + 1 + 1 + 1 + 1 + 1) tTr #[.int .i64 (jst 2)] := by rw [← hw9]; exact (((Cel.new ((((((w.alloc _).alloc _).alloc _).alloc _).alloc _).alloc _) _ _ (by simp)).alloc _).alloc _)
  have bG : Cel w9 (w.heap.size + 1 + 1 + 1 + 1 + 1 + 1 + 1) tGi g.cells := by rw [← hw9]; exact ((Cel.new (((((((w.alloc _).alloc _).alloc _).alloc _).alloc _).alloc _).alloc _) _ _ (by simp)).alloc _)
  have bK : Cel w9 (w.heap.size + 1 + 1 + 1 + 1 + 1 + 1 + 1 + 1) tXs #[.slice A m c] := by rw [← hw9]; exact (Cel.new ((((((((w.alloc _).alloc _).alloc _).alloc _).alloc _).alloc _).alloc _).alloc _) _ _ (by simp))
  have s9 : w9.heap.size = w.heap.size + 9 := by rw [← hw9]; simp
  have hB0 : Below w.heap.size w w9 := by rw [← hw9]; exact al (al (al (al (al (al (al (al (al (Below.refl _ _) _) _) _) _) _) _) _) _) _
  rw [hw9]
  clear hw9
  refine wpIn_rangeFunc_ownH rfl (by omega) (gf := 272) (lb := #[.pointer (some ⟨w.heap.size + 1 + 1 + 1 + 1 + 1 + 1 + 1 + 1, 0, none⟩), .pointer (some ⟨w.heap.size + 1 + 1 + 1 + 1 + 1 + 1 + 1, 0, none⟩)]) rfl trivial (enters_of Tryz.func272 (by kernel_rfl) rfl)
    (vals_stops (5 - 1) (by omega) _ _ w.heap.size A m c g kids w9 bK bG (by omega) (hG.below hB0 (Nat.le_refl _)) (KidsIn.to (fun _ h => h) (fun p hp => hB0.cell hp) hK) HM.out hM ih) kp_t (kp_b (by omega)) (Below.refl _ _) (fun x => rfl)
    (JnI w (.func (.func 194) #[] #[]) (.func (.func 240) #[] #[]) 2 ofV) (JnX w (.func (.func 194) #[] #[]) (.func (.func 240) #[] #[]) 2 ofV 0)
    (OwnFrom.and (Own.from (fun s X Y row hs hg hr => by obtain ⟨b, h1, h2⟩ := hs; exact ⟨b, h1, h2.own hg hr⟩) _) (ownFrom_below (Nat.le_refl _) (by omega)))
    (fun c => OwnFrom.and (Own.from (fun s X Y row hs hg hr => by
      rcases hs with ⟨e, f, h1, h2, h3⟩ | ⟨e, h1, h2⟩
      · exact .inl ⟨e, f, h1, cel_own h2 hg hr, cel_own h3 hg hr⟩
      · exact .inr ⟨e, h1, h2.own hg hr⟩) _) (ownFrom_below (Nat.le_refl _) (by omega)))
    ⟨⟨_, fun rest => rfl, ⟨bR, ⟨bV, bE⟩, bN, bT, bA⟩⟩, hB0⟩
    (fun x a' W => ∃ Bx, Cel W Bx tVa #[.int .i64 x.1.k, .int .i64 x.1.n, .string (txt x.1.s)] ∧ a' = jnA g A m c w (.func (.func 194) #[] #[]) (.func (.func 240) #[] #[]) 2 false x Bx)
    (fun x a' => Own.from (fun s X Y row ⟨Bx, hs, e⟩ hg hr => ⟨Bx, cel_own hs hg hr, e⟩) _) ?assign ?body ?done ?stop
  case assign =>
    rintro l pre ⟨⟨vk, vn, vs⟩, f⟩ W K ⟨⟨b, h1, h2⟩, hB⟩ hK
    gi_wp2
    exact hK _ _ ((KeepsOthers.alloc _ _).from _) (kp_of hB.size (al (Below.refl _ _) _)) ⟨⟨b, h1, h2.below (al (Below.refl _ _) _)⟩, al hB _⟩ ⟨W.heap.size, Cel.new _ _ _ rfl, rfl⟩
  case body =>
    rintro l pre ⟨⟨vk, vn, vs⟩, f⟩ a' W hl ⟨r, hr⟩ ⟨⟨b, h1, h2⟩, hB⟩ ⟨Bx, hBx, rfl⟩ hlt
    have HJ := Lib.hid h1
    have HX := Lib.hid h2
    have HB := Lib.hid hB
    have HBX := Lib.hid hBx
    have HR := Lib.hid hr
    clear h1 h2 hB hBx hr hlt
    have c0 := HBX.out.at_ 0
    have c1 := HBX.out.at_ 1
    have c2 := HBX.out.at_ 2
    have q0 := HX.out.2.1.1.at_ 0
    have q1 := HX.out.2.1.1.at_ 1
    have q2 := HX.out.2.1.1.at_ 2
    have q3 := HX.out.2.1.1.open_ 0
    have q4 := HX.out.2.1.1.open_ 1
    have q5 := HX.out.2.1.1.open_ 2
    have q6 := HX.out.2.1.2.at_ 0
    have q7 := HX.out.2.1.2.open_ 0
    have q8 := HX.out.2.2.1.at_ 0
    have q9 := HX.out.2.2.2.1.at_ 0
    have qa := HX.out.2.2.2.2.at_ 0
    have qb := HX.out.2.2.2.2.open_ 0
    have qc := HX.out.1.at_ 0
    unfold jnA
    by_cases hf : f = 0
    · subst hf
      have HRV := Lib.hid (HRU.out ⟨vk, vn, vs⟩ W HB.out)
      obtain ⟨⟨t, rf⟩, hR⟩ : ∃ R, ofV ⟨vk, vn, vs⟩ = R := ⟨_, rfl⟩
      rw [hR] at HRV
      have HRR := Lib.hid hR
      clear hR
      gi_wp2_with (fail)
      refine ⟨trivial, ?_⟩
      refine (CallsIn.inRound l (callsIn_wide.2 HRV.out)).mono ?_
      rintro e1 w1 ⟨rfl, hb1⟩
      have HB1 := Lib.hid hb1
      have HX1 := Lib.hid (HX.out.below hb1)
      have HBW1 := Lib.hid (Mem.on HB.out hb1)
      clear hb1
      have u0 := HX1.out.2.1.1.at_ 0
      have u1 := HX1.out.2.1.1.at_ 1
      have u2 := HX1.out.2.1.1.at_ 2
      have u3 := HX1.out.2.1.1.open_ 0
      have u4 := HX1.out.2.1.1.open_ 1
      have u5 := HX1.out.2.1.1.open_ 2
      have u6 := HX1.out.2.1.2.at_ 0
      have u7 := HX1.out.2.1.2.open_ 0
      have u8 := HX1.out.2.2.1.at_ 0
      have u9 := HX1.out.2.2.2.1.at_ 0
      have ua := HX1.out.2.2.2.2.at_ 0
      have ub := HX1.out.2.2.2.2.open_ 0
      have uc := HX1.out.1.at_ 0
      by_cases hrf : rf = 0
      · subst hrf
        obtain ⟨X, hX⟩ : ∃ X, w1.alloc (.cells #[.int .i64 b, .int .i64 t] 232) = X := ⟨_, rfl⟩
        have HBA := Lib.hid (show Below W.heap.size W X from by rw [← hX]; exact al HB1.out _)
        have HXX := Lib.hid (HX.out.below HBA.out)
        have HBXW := Lib.hid (Mem.on HB.out HBA.out)
        have HTG := Lib.hid (and_2 b t w1)
        rw [hX] at HTG
        obtain ⟨u, hu⟩ : ∃ u, tog 2 b t = u := ⟨_, rfl⟩
        rw [hu] at HTG
        have HU := Lib.hid hu
        clear hu
        have v0 := HXX.out.2.1.1.at_ 0
        have v1 := HXX.out.2.1.1.at_ 1
        have v2 := HXX.out.2.1.1.at_ 2
        have v3 := HXX.out.2.1.1.open_ 0
        have v4 := HXX.out.2.1.1.open_ 1
        have v5 := HXX.out.2.1.1.open_ 2
        have v6 := HXX.out.2.1.2.at_ 0
        have v7 := HXX.out.2.1.2.open_ 0
        have v8 := HXX.out.2.2.1.at_ 0
        have v9 := HXX.out.2.2.2.1.at_ 0
        have va := HXX.out.2.2.2.2.at_ 0
        have vb := HXX.out.2.2.2.2.open_ 0
        have vc := HXX.out.1.at_ 0
        have HNX := Lib.hid (show Bxs w (.func (.func 194) #[] #[]) (.func (.func 240) #[] #[]) 2 u (X.setCell ⟨w.heap.size + 1 + 1 + 1 + 1 + 1 + 1, 0, none⟩ (.int .i64 u)) from ⟨HXX.out.1.other (by omega) 0 _, ⟨HXX.out.2.1.1.other (by omega) 0 _, HXX.out.2.1.2.other (by omega) 0 _⟩, HXX.out.2.2.1.other (by omega) 0 _, HXX.out.2.2.2.1.other (by omega) 0 _, HXX.out.2.2.2.2.set 0 _⟩)
        have n8 := HNX.out.2.2.1.at_ 0
        have na := HNX.out.2.2.2.2.at_ 0
        have HNB := Lib.hid (show Below w.heap.size w (X.setCell ⟨w.heap.size + 1 + 1 + 1 + 1 + 1 + 1, 0, none⟩ (.int .i64 u)) from HBXW.out.setCell (p := ⟨w.heap.size + 1 + 1 + 1 + 1 + 1 + 1, 0, none⟩) (by show w.heap.size ≤ w.heap.size + 1 + 1 + 1 + 1 + 1 + 1; omega) _)
        have HNK := Lib.hid (show KeepsOthers W (X.setCell ⟨w.heap.size + 1 + 1 + 1 + 1 + 1 + 1, 0, none⟩ (.int .i64 u)) from (ko_below HBA.out).trans (KeepsOthers.setCell _ _ _))
        have HNP := Lib.hid (show Kp w.heap.size W (X.setCell ⟨w.heap.size + 1 + 1 + 1 + 1 + 1 + 1, 0, none⟩ (.int .i64 u)) from kp_t (kp_of HB.out.size HBA.out) (kp_set HXX.out.2.2.2.2 (by omega) 0 _))
        by_cases hend : u = jen 2
        · have HE := Lib.hid (show ∀ rest, jn 2 ofV (jst 2) (pre ++ [(⟨vk, vn, vs⟩, 0)] ++ rest) = (trV (jen 2), 0) from fun rest => by
            rw [List.append_assoc]
            exact (HJ.out _).trans (jn_end HRR.out (by rw [HU.out, hend])))
          subst hend
          have HNX := Lib.hid HNX.out
          clear HU
          rw [show jen 2 = 0 from rfl] at n8 na HTG
          gi_wp2_with (refine ⟨trivial, ?_⟩; refine (CallsIn.inRound l (callsIn_wide.2 HTG.out)).mono ?_; rintro e2 w2 ⟨rfl, rfl⟩)
          exact ⟨HNK.out.from _, .inr ⟨rfl, HE.out, HNX.out⟩, HNB.out⟩
        · have HE := Lib.hid (show ∀ rest, jn 2 ofV (jst 2) (pre ++ [(⟨vk, vn, vs⟩, 0)] ++ rest) = jn 2 ofV u rest from fun rest => by
            rw [List.append_assoc]
            refine (HJ.out _).trans ((jn_on HRR.out (by rw [HU.out]; exact hend)).trans ?_)
            rw [HU.out]
            rfl)
          have te : (u == 0) = false := Right.beq_no hend
          rw [show jen 2 = 0 from rfl] at n8
          clear hend HU
          gi_wp2_with (refine ⟨trivial, ?_⟩; refine (CallsIn.inRound l (callsIn_wide.2 HTG.out)).mono ?_; rintro e2 w2 ⟨rfl, rfl⟩)
          exact ⟨HNK.out.from _, HNP.out, ⟨_, HE.out, HNX.out⟩, HNB.out⟩
      · have t0 : (rf != 0) = true := bne_yes hrf
        have HE := Lib.hid (show ∀ rest, jn 2 ofV (jst 2) (pre ++ [(⟨vk, vn, vs⟩, 0)] ++ rest) = (nul, rf) from fun rest => by
          rw [List.append_assoc]
          refine (HJ.out _).trans ((jn_rule (by rw [HRR.out]; exact hrf)).trans ?_)
          rw [HRR.out])
        have HNK := Lib.hid (show KeepsOthers W ((((w1.setCell ⟨w.heap.size + 1 + 1, 0, none⟩ (.int .i64 0)).setCell ⟨w.heap.size + 1 + 1, 1, none⟩ (.int .i64 0)).setCell ⟨w.heap.size + 1 + 1, 2, none⟩ (.string ⟨#[]⟩)).setCell ⟨w.heap.size + 1 + 1 + 1, 0, none⟩ (.int .i64 rf)) from (((((ko_below HB1.out).trans (KeepsOthers.setCell _ _ _)).trans (KeepsOthers.setCell _ _ _)).trans (KeepsOthers.setCell _ _ _)).trans (KeepsOthers.setCell _ _ _)))
        clear hrf
        gi_wp2
        exact ⟨HNK.out.from _, .inl ⟨rfl, rf, HE.out, (three_set HX1.out.2.1.1).other (by omega) 0 _, (((HX1.out.2.1.2.other (b := w.heap.size + 1 + 1) (by omega) 0 _).other (b := w.heap.size + 1 + 1) (by omega) 1 _).other (b := w.heap.size + 1 + 1) (by omega) 2 _).set 0 _⟩,
          (below_three HBW1.out (by omega)).setCell (p := ⟨w.heap.size + 1 + 1 + 1, 0, none⟩) (by show w.heap.size ≤ w.heap.size + 1 + 1 + 1; omega) _⟩
    · have t0 : (f != 0) = true := bne_yes hf
      have HE := Lib.hid (show ∀ rest, jn 2 ofV (jst 2) (pre ++ [(⟨vk, vn, vs⟩, f)] ++ rest) = (nul, f) from fun rest => by
        rw [List.append_assoc]
        exact (HJ.out _).trans (jn_err hf))
      have HNK := Lib.hid (show KeepsOthers W ((((W.setCell ⟨w.heap.size + 1 + 1, 0, none⟩ (.int .i64 0)).setCell ⟨w.heap.size + 1 + 1, 1, none⟩ (.int .i64 0)).setCell ⟨w.heap.size + 1 + 1, 2, none⟩ (.string ⟨#[]⟩)).setCell ⟨w.heap.size + 1 + 1 + 1, 0, none⟩ (.int .i64 f)) from ((((KeepsOthers.setCell _ _ _).trans (KeepsOthers.setCell _ _ _)).trans (KeepsOthers.setCell _ _ _)).trans (KeepsOthers.setCell _ _ _)))
      clear hf
      gi_wp2
      exact ⟨HNK.out.from _, .inl ⟨rfl, f, HE.out, (three_set HX.out.2.1.1).other (by omega) 0 _, (((HX.out.2.1.2.other (b := w.heap.size + 1 + 1) (by omega) 0 _).other (b := w.heap.size + 1 + 1) (by omega) 1 _).other (b := w.heap.size + 1 + 1) (by omega) 2 _).set 0 _⟩,
        (below_three HB.out (by omega)).setCell (p := ⟨w.heap.size + 1 + 1 + 1, 0, none⟩) (by show w.heap.size ≤ w.heap.size + 1 + 1 + 1; omega) _⟩
  case done =>
    rintro D xs W hD rfl ⟨⟨b, h1, h2⟩, hB⟩ hK
    have HE := Lib.hid (show jn 2 ofV (jst 2) (kids.map (cm g)) = (trV b, 0) from by
      have := h1 []
      rw [List.append_nil] at this
      rw [this, jn])
    clear h1
    obtain ⟨⟨vk, vn, vs⟩, hv⟩ : ∃ v, trV b = v := ⟨_, rfl⟩
    have HV := Lib.hid (value_tr b W)
    rw [hv] at HV HE
    have HBX := Lib.hid hB
    have HX := Lib.hid h2
    have HK := Lib.hid hK
    have HD := Lib.hid hD
    clear hv hB h2 hK hD
    have q0 := HX.out.2.1.1.at_ 0
    have q1 := HX.out.2.1.1.at_ 1
    have q2 := HX.out.2.1.1.at_ 2
    have q3 := HX.out.2.1.1.open_ 0
    have q4 := HX.out.2.1.1.open_ 1
    have q5 := HX.out.2.1.1.open_ 2
    have q6 := HX.out.2.1.2.at_ 0
    have q7 := HX.out.2.1.2.open_ 0
    have q8 := HX.out.2.2.1.at_ 0
    have q9 := HX.out.2.2.2.1.at_ 0
    have qa := HX.out.2.2.2.2.at_ 0
    have qb := HX.out.2.2.2.2.open_ 0
    have qc := HX.out.1.at_ 0
    gi_wp2_with (fail)
    refine ⟨trivial, ?_⟩
    refine (callsIn_wide.2 HV.out).mono ?_
    rintro e1 w1 ⟨rfl, hb1⟩
    have HB1 := Lib.hid hb1
    have HX1 := Lib.hid (HX.out.below hb1)
    have HBW1 := Lib.hid (Mem.on HBX.out hb1)
    have HK1 := Lib.hid (show w1.heap[D]? = some (.deferred (some [])) from (hb1.block D (blk_lt HK.out)).trans HK.out)
    clear hb1
    have u0 := HX1.out.2.1.1.at_ 0
    have u1 := HX1.out.2.1.1.at_ 1
    have u2 := HX1.out.2.1.1.at_ 2
    have u3 := HX1.out.2.1.1.open_ 0
    have u4 := HX1.out.2.1.1.open_ 1
    have u5 := HX1.out.2.1.1.open_ 2
    have u6 := HX1.out.2.1.2.at_ 0
    have u7 := HX1.out.2.1.2.open_ 0
    have u8 := HX1.out.2.2.1.at_ 0
    have u9 := HX1.out.2.2.2.1.at_ 0
    have ua := HX1.out.2.2.2.2.at_ 0
    have ub := HX1.out.2.2.2.2.open_ 0
    have uc := HX1.out.1.at_ 0
    gi_wp2
    exact fin_two (w := w) rfl rfl (by have := HD.out; omega) (((((KeepsOthers.setCell _ _ _).trans (KeepsOthers.setCell _ _ _)).trans (KeepsOthers.setCell _ _ _)).trans (KeepsOthers.setCell _ _ _)).same D _ HK1.out rfl) ((below_three HBW1.out (show w.heap.size ≤ w.heap.size + 1 + 1 by omega)).setCell (p := ⟨w.heap.size + 1 + 1 + 1, 0, none⟩) (show w.heap.size ≤ w.heap.size + 1 + 1 + 1 by omega) _) rfl rfl ((three_set HX1.out.2.1.1).other (by omega) 0 _) ((((HX1.out.2.1.2.other (b := w.heap.size + 1 + 1) (by omega) 0 _).other (b := w.heap.size + 1 + 1) (by omega) 1 _).other (b := w.heap.size + 1 + 1) (by omega) 2 _).set 0 _) (fun W hW => ⟨by rw [HE.out], hW⟩)
  case stop =>
    rintro D c2 pre W hD ⟨k, hk, rfl⟩ ⟨hs, hB⟩ hK
    rcases hs with ⟨rfl, f, h1, hbv, hbe⟩ | ⟨rfl, h1, h2⟩
    · have HE := Lib.hid (show jn 2 ofV (jst 2) (kids.map (cm g)) = (nul, f) from by
        have := h1 ((kids.map (cm g)).drop k)
        rwa [List.take_append_drop] at this)
      have HBV := Lib.hid hbv
      have HBE := Lib.hid hbe
      have HB := Lib.hid hB
      have HK := Lib.hid hK
      have HD := Lib.hid hD
      clear h1 hbv hbe hB hK hD hk
      gi_wp2
      exact fin_two (w := w) rfl rfl (by have := HD.out; omega) HK.out HB.out rfl rfl HBV.out HBE.out (fun W hW => ⟨by rw [HE.out]; rfl, hW⟩)
    obtain ⟨b, hb⟩ : ∃ b, jen 2 = b := ⟨_, rfl⟩
    have HE := Lib.hid (show jn 2 ofV (jst 2) (kids.map (cm g)) = (trV b, 0) from by
      have := h1 ((kids.map (cm g)).drop k)
      rw [List.take_append_drop] at this
      rw [this, hb])
    rw [show Bxs w (.func (.func 194) #[] #[]) (.func (.func 240) #[] #[]) 2 (jen 2) W = Bxs w (.func (.func 194) #[] #[]) (.func (.func 240) #[] #[]) 2 b W from by rw [hb]] at h2
    clear h1 hb hk
    obtain ⟨⟨vk, vn, vs⟩, hv⟩ : ∃ v, trV b = v := ⟨_, rfl⟩
    have HV := Lib.hid (value_tr b W)
    rw [hv] at HV HE
    have HBX := Lib.hid hB
    have HX := Lib.hid h2
    have HK := Lib.hid hK
    have HD := Lib.hid hD
    clear hv hB h2 hK hD
    have q0 := HX.out.2.1.1.at_ 0
    have q1 := HX.out.2.1.1.at_ 1
    have q2 := HX.out.2.1.1.at_ 2
    have q3 := HX.out.2.1.1.open_ 0
    have q4 := HX.out.2.1.1.open_ 1
    have q5 := HX.out.2.1.1.open_ 2
    have q6 := HX.out.2.1.2.at_ 0
    have q7 := HX.out.2.1.2.open_ 0
    have q8 := HX.out.2.2.1.at_ 0
    have q9 := HX.out.2.2.2.1.at_ 0
    have qa := HX.out.2.2.2.2.at_ 0
    have qb := HX.out.2.2.2.2.open_ 0
    have qc := HX.out.1.at_ 0
    gi_wp2_with (fail)
    refine ⟨trivial, ?_⟩
    refine (callsIn_wide.2 HV.out).mono ?_
    rintro e1 w1 ⟨rfl, hb1⟩
    have HB1 := Lib.hid hb1
    have HX1 := Lib.hid (HX.out.below hb1)
    have HBW1 := Lib.hid (Mem.on HBX.out hb1)
    have HK1 := Lib.hid (show w1.heap[D]? = some (.deferred (some [])) from (hb1.block D (blk_lt HK.out)).trans HK.out)
    clear hb1
    have u0 := HX1.out.2.1.1.at_ 0
    have u1 := HX1.out.2.1.1.at_ 1
    have u2 := HX1.out.2.1.1.at_ 2
    have u3 := HX1.out.2.1.1.open_ 0
    have u4 := HX1.out.2.1.1.open_ 1
    have u5 := HX1.out.2.1.1.open_ 2
    have u6 := HX1.out.2.1.2.at_ 0
    have u7 := HX1.out.2.1.2.open_ 0
    have u8 := HX1.out.2.2.1.at_ 0
    have u9 := HX1.out.2.2.2.1.at_ 0
    have ua := HX1.out.2.2.2.2.at_ 0
    have ub := HX1.out.2.2.2.2.open_ 0
    have uc := HX1.out.1.at_ 0
    gi_wp2
    exact fin_two (w := w) rfl rfl (by have := HD.out; omega) (((((KeepsOthers.setCell _ _ _).trans (KeepsOthers.setCell _ _ _)).trans (KeepsOthers.setCell _ _ _)).trans (KeepsOthers.setCell _ _ _)).same D _ HK1.out rfl) ((below_three HBW1.out (show w.heap.size ≤ w.heap.size + 1 + 1 by omega)).setCell (p := ⟨w.heap.size + 1 + 1 + 1, 0, none⟩) (show w.heap.size ≤ w.heap.size + 1 + 1 + 1 by omega) _) rfl rfl ((three_set HX1.out.2.1.1).other (by omega) 0 _) ((((HX1.out.2.1.2.other (b := w.heap.size + 1 + 1) (by omega) 0 _).other (b := w.heap.size + 1 + 1) (by omega) 1 _).other (b := w.heap.size + 1 + 1) (by omega) 2 _).set 0 _) (fun W hW => ⟨by rw [HE.out], hW⟩)
end Go.Proofs.YtbdippgamlknbaaGreatDoor.Eo
