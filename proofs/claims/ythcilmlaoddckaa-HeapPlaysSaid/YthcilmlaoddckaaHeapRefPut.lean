/- The document's heap: Put. -/
import Derived.Test.YthcilmlaoddckaaHeapRefs
namespace Go.Proofs.Ythcilmlaoddckaa.Pg
open Go.RowKit Go.Proofs.Ythcilmlaoddckaa.Mem Go.Proofs.Ythcilmlaoddckaa.Right
set_option linter.unusedVariables false

theorem two_load2 {W : World} {B : Nat} {x y : Value} (h0 : W.cell? ⟨B, 0, none⟩ = some x) (h1 : W.cell? ⟨B, 1, none⟩ = some y) : (loadVar 62 ⟨B, 0, none⟩).run Try.prog W = .ok (.agg #[x, y]) W := by
  go_simp
theorem rid_load2 {W : World} {B : Nat} {x y : Value} (h : Cel W B 62 #[x, y]) : (loadVar 62 ⟨B, 0, none⟩).run Try.prog W = .ok (.agg #[x, y]) W := two_load2 (h.at_ 0) (h.at_ 1)
/-- The types of blocks that a call of the document's heap may turn. -/
abbrev TyR : List TypeId := [28, 72]
theorem RM.fin {w w1 : World} {n₀ B g : Nat} {L : List (List Sl)} {r : Value} {a b x y : Int} (h : RP w1 n₀ B L) (hf : Frm [28, 72] n₀ w w1) (hg : w.heap.size ≤ g) (hn : n₀ ≤ w.heap.size) (hz : Cel w1 g 62 #[.int .i64 a, .int .i64 b]) :
    RM w n₀ B L r (.returned r) ((w1.setCell ⟨g, 0, none⟩ (.int .i64 x)).setCell ⟨g, 1, none⟩ (.int .i64 y)) :=
  ⟨rfl, h.frm (Frm.two (T := [62]) (n₀ := n₀) hz (by decide) (Nat.le_trans hn hg)) (by decide) (by decide) (by decide), (hf.fresh hg (Nat.le_trans hn hg) _).fresh hg (Nat.le_trans hn hg) _⟩
theorem RM.same {w w1 : World} {n₀ B g : Nat} {L : List (List Sl)} {r : Value} {a b x y : Int} (h : RP w n₀ B L) (hb : Below w.heap.size w w1) (hg : w.heap.size ≤ g) (hz : Cel w1 g 62 #[.int .i64 a, .int .i64 b]) :
    RM w n₀ B L r (.returned r) ((w1.setCell ⟨g, 0, none⟩ (.int .i64 x)).setCell ⟨g, 1, none⟩ (.int .i64 y)) :=
  RM.fin (h.below hb) (Frm.of hb h.size) hg h.size hz
/-- An element of the heap's list written. -/
theorem RP.set {w : World} {n₀ B k : Nat} {L : List (List Sl)} {S : List Sl} {r : Sr} (h : RP w n₀ B L) (hk : k < L.length) (hr : RL w r.A r.n r.c S) (hS : Ok S) (g : Nat) (c : Nat) (hc : w.cell? ⟨B, 0, none⟩ = some (.slice (some ⟨g, 0, none⟩) L.length c)) :
    RP (w.setCell ⟨g, k, none⟩ (slv r)) n₀ B (L.set k S) ∧ Frm [72] n₀ w (w.setCell ⟨g, k, none⟩ (slv r)) := by
  obtain ⟨h1, h2, v, h3, h4⟩ := h
  obtain rfl : v = .slice (some ⟨g, 0, none⟩) L.length c := by
    have := h3.at_ 0
    rw [hc] at this
    injection this with this
    exact this.symm
  obtain ⟨q1, q2⟩ := h4.set hk hr
  exact ⟨⟨h1, ⟨ok_set h2.1 hS, by rw [List.length_set]; exact h2.2⟩, _, q2.cel (by decide) h3, q1⟩, q2⟩
theorem RP.put {w : World} {n₀ B : Nat} {x v : Value} {L : List (List Sl)} (hB : n₀ ≤ B) (hz : Cel w B 28 #[x]) (hx : Slc x) (hA : Arr w n₀ v L) (hO : ∀ S ∈ L, Ok S) (hl : L.length ≤ 64) :
    RP (w.setCell ⟨B, 0, none⟩ v) n₀ B L ∧ Frm [28] n₀ w (w.setCell ⟨B, 0, none⟩ v) := by
  obtain ⟨A0, m0, c0, rfl⟩ := hx
  have hf : Frm [28] n₀ w (w.setCell ⟨B, 0, none⟩ v) := Frm.set hz (by decide) hB (fun j z => by
    match j with
    | 0 => intro e; cases e
    | j + 1 => intro e; simp at e) _
  exact ⟨⟨hB, ⟨hO, hl⟩, v, hz.set 0 _, hA.frm hf (by decide) (by decide)⟩, hf⟩
set_option maxRecDepth 100000 in
set_option maxHeartbeats 4000000 in
theorem put_r_in (n₀ B : Nat) (L : List (List Sl)) (A2 : Option Addr) (m c2 : Nat) (d : List UInt8) (w : World) (h : RP w n₀ B L) (hd : Bs w A2 m c2 d) (hm : d.length ≤ 255) (x : Option (List (List Sl))) (p s y : Int) (hx : putH L d = (x, p, s, y)) :
    Calls Try.prog 22 #[.pointer (some ⟨B, 0, none⟩), .slice A2 m c2] w (RM w n₀ B (x.getD L) (.tuple #[.agg #[.int .i64 p, .int .i64 s], .int .i64 y])) := by
  have H := Lib.hid h
  have HD := Lib.hid hd
  have HX := Lib.hid hx
  have HMD := Lib.hid hm
  have HB0 := Lib.hid (al (Below.refl w.heap.size w) (.cells #[.int .i64 0, .int .i64 0] 62))
  have HZ0 := Lib.hid (Cel.new w 62 #[.int .i64 0, .int .i64 0] rfl)
  obtain ⟨n, hn⟩ : ∃ n, L.length = n := ⟨_, rfl⟩
  have hn64 : n ≤ 64 := by have := h.few; omega
  obtain ⟨A, c, ⟨y0, f0⟩, _, hA, hc1, hc2⟩ := h.open_
  have HA := Lib.hid hA
  have HN := Lib.hid hn
  rw [hn] at y0 hc1 HA
  have hB := h.lt
  have HK : Hid (∀ W, Below w.heap.size w W → W.cell? ⟨B, 0, none⟩ = some (.slice A n c) ∧ W.frozen? ⟨B, 0, none⟩ = false) := Lib.hid fun W hW => by
    obtain ⟨A9, c9, ⟨y9, f9⟩, _⟩ := (h.below hW).open_
    exact ⟨(hW.cell (p := ⟨B, 0, none⟩) hB).trans y0, f9⟩
  have t1 : ¬ (255 : Int) < (m : Int) := by have := hd.2.1; omega
  clear h hd hx hm hA hn f0 y0
  go_enter Try.func22, Try.ntmps22
  go_wp2
  go_loopw [6] (fun i wr => ∃ k : Nat, k ≤ n ∧ i = .int .i64 k ∧ Hid (∀ j, j < k → (putV (pageOf L j) d).1 = none) ∧ Hid (Below w.heap.size w wr) ∧ Hid (Cel wr w.heap.size 62 #[.int .i64 0, .int .i64 0])) (fun i _ => n - (intOf i).toNat)
  case atStart => exact ⟨0, Nat.zero_le _, rfl, Lib.hid (fun j hj => by omega), HB0, HZ0⟩
  case round =>
    clear HB0 HZ0
    obtain ⟨k, hk, rfl, HQ, HB, HZ⟩ := hrel
    obtain ⟨y0, f0⟩ := HK.out wr HB.out
    by_cases hlt : k < n
    · have hlt' : (k : Int) < (n : Int) := by omega
      have hkL : k < L.length := by rw [HN.out]; exact hlt
      obtain ⟨g, cap, r, ev, hg, _, cg, fg, hr⟩ := (HA.out.below HB.out).get hkL
      obtain ⟨_, _, _, ev0, _, _, cg0, _⟩ := HA.out.get hkL
      injection ev with e1 e2 e3
      subst e1 e3
      injection ev0 with e4 _ _
      injection e4 with e4
      injection e4 with e4
      subst e4
      have hgw : g < w.heap.size := cell_lt cg0
      obtain ⟨rA, rn, rc⟩ := r
      have hcg : wr.cell? ⟨g, k, none⟩ = some (.slice rA rn rc) := cg
      have HR := Lib.hid hr
      have HOK := Lib.hid (ok_page H.out.each k)
      obtain ⟨px, ps, py, hpx⟩ : ∃ px ps py, putV (pageOf L k) d = (px, ps, py) := ⟨_, _, _, rfl⟩
      have HPX := Lib.hid hpx
      clear hr cg cg0 e2
      cases px with
      | none =>
        have hy : ¬ py = 0 := by rcases (putV_no hpx).2 with e | e <;> (rw [e]; decide)
        have HQ2 := Lib.hid (show ∀ j, j < k + 1 → (putV (pageOf L j) d).1 = none from fun j hj => by
          by_cases e : j = k
          · subst e; rw [HPX.out]
          · exact HQ.out j (by omega))
        clear hpx
        go_wp2_with (go_at_call 38; (with_reducible refine (put_ref rA A2 rn rc m c2 (pageOf L k) d _ HR.out HOK.out (HD.out.below HB.out) none ps py HPX.out).mono ?_); rintro e w2 ⟨rfl, hb2⟩; have HB2 := Lib.hid (Mem.on HB.out hb2); have HZ2 := Lib.hid (HZ.out.below hb2); clear hb2)
        go_roundw
        case rel => exact ⟨k + 1, by omega, by go_num, HQ2, HB2, HZ2⟩
        case measure => simp [intOf]; omega
      | some S =>
        have hpv := putV_ok HOK.out hpx
        have HSO := Lib.hid hpv.1
        obtain rfl := hpv.2.2.2.1
        have HRS := Lib.hid (putH_at (by omega) HQ.out hpx)
        have n3 : g ≠ w.heap.size := by omega
        have n4 : w.heap.size ≠ g := by omega
        clear hpx hpv f0 fg
        go_upto_region 8 with (go_at_call 38; (with_reducible refine (put_ref rA A2 rn rc m c2 (pageOf L k) d _ HR.out HOK.out (HD.out.below HB.out) (some S) ps 0 HPX.out).mono ?_); rintro e w2 ⟨⟨A3, c3, rfl, hr3⟩, hb2⟩; have HR3 := Lib.hid hr3; have HB2 := Lib.hid (Mem.on HB.out hb2); have HZ2 := Lib.hid (HZ.out.below hb2); clear hb2 hr3)
        clear y0 hcg
        obtain ⟨y0, f0⟩ := HK.out w2 HB2.out
        obtain ⟨_, _, _, ev1, _, _, cg, fg, _⟩ := (HA.out.below HB2.out).get hkL
        injection ev1 with e5 _ _
        injection e5 with e5
        injection e5 with e5
        subst e5
        have hset := (H.out.below HB2.out).set hkL (r := ⟨A3, S.length, c3⟩) HR3.out HSO.out g c (by rw [HN.out]; exact y0)
        have hZ3 := HZ2.out.other n3 k (slv ⟨A3, S.length, c3⟩)
        have HS1 := Lib.hid hset.1
        have HS2 := Lib.hid hset.2
        have HZ3 := Lib.hid hZ3
        have z0 := HZ2.out.at_ 0
        have z1 := HZ2.out.at_ 1
        have zf0 := HZ2.out.open_ 0
        have zf1 := HZ2.out.open_ 1
        clear hset hZ3
        go_wp2
        have hX := HX.out
        rw [HRS.out] at hX
        injection hX with e1 hX
        injection hX with e2 hX
        injection hX with e3 e4
        subst e1 e2 e3 e4
        refine bodyPost_ret (res_ct rfl rfl (rid_load2 ((HZ3.out.set 0 (.int .i64 (k : Int))).set 1 (.int .i64 ps)))) rfl ?_
        have e5 : setP L k S = L.set k S := setP_lt hkL
        rw [e5]
        exact RM.fin HS1.out ((Frm.of HB2.out H.out.size).trans (HS2.out.more (by decide))) (Nat.le_refl _) H.out.size HZ3.out
    · obtain rfl : k = n := by omega
      by_cases h64 : k = 64
      · subst h64
        have HRS := Lib.hid (putH_no HQ.out)
        have z0 := HZ.out.at_ 0
        have z1 := HZ.out.at_ 1
        have zf0 := HZ.out.open_ 0
        have zf1 := HZ.out.open_ 1
        go_wp2
        have hX := HX.out
        rw [HRS.out] at hX
        injection hX with e1 hX
        injection hX with e2 hX
        injection hX with e3 e4
        subst e1 e2 e3 e4
        refine bodyPost_ret (res_ct rfl rfl (rid_load2 ((HZ.out.set 0 (.int .i64 0)).set 1 (.int .i64 0)))) rfl ?_
        exact RM.same H.out HB.out (Nat.le_refl _) HZ.out
      · have h64' : ¬ (k : Int) = 64 := by omega
        obtain ⟨S, hS⟩ : ∃ S, [some d] = S := ⟨_, rfl⟩
        have HPX := Lib.hid (show putV [] d = (some S, 0, 0) by rw [← hS]; exact putV_new HMD.out)
        have HSO := Lib.hid (putV_ok Ok.nil HPX.out).1
        have HRS := Lib.hid (putH_at (k := k) (by omega) HQ.out (by rw [pageOf_ge (by rw [HN.out]; exact Nat.le_refl _)]; exact HPX.out))
        have HL1 : Hid (L.length ≤ 1000) := Lib.hid (by rw [HN.out]; omega)
        clear hS
        go_upto_region 13 with (go_at_call 38; (with_reducible refine (put_ref none A2 0 0 m c2 [] d _ (RL.nil _) Ok.nil (HD.out.below HB.out) (some S) 0 0 HPX.out).mono ?_); rintro e w2 ⟨⟨A3, c3, rfl, hr3⟩, hb2⟩; have HR3 := Lib.hid hr3; have HB2 := Lib.hid (Mem.on HB.out hb2); have HZ2 := Lib.hid (HZ.out.below hb2); clear hb2 hr3)
        clear y0 f0
        obtain ⟨y0, f0⟩ := HK.out w2 HB2.out
        have HA2 := Lib.hid (HA.out.below HB2.out)
        have HN0 : Hid (n₀ ≤ w2.heap.size) := Lib.hid (Nat.le_trans H.out.size HB2.out.size)
        have hnB : B ≠ w.heap.size := by have := H.out.lt; omega
        have hnB' : w.heap.size ≠ B := by omega
        obtain ⟨_, _, _, hcel, _⟩ := (H.out.below HB2.out).open_
        have HC2 : Hid (Cel w2 B 28 #[.slice A k c]) := Lib.hid (by
          have e := hcel.at_ 0
          rw [y0] at e
          injection e with e
          rw [e]
          exact hcel)
        clear hcel
        go_wp2_with (at_builtin; go_loud (refine wp_arr (r := ⟨A3, S.length, c3⟩) (.tmp 68) (.tmp 70) rfl rfl rfl HA2.out rfl HR3.out HL1.out HN0.out ?_; intro v' w4 m4 f4; obtain ⟨A5, c5, rfl, hm5⟩ := m4.form; have HM4 := Lib.hid m4; have HF4 := Lib.hid f4; have HC4 := Lib.hid (f4.cel (by decide) HC2.out); have HZ4 := Lib.hid (f4.cel (by decide) HZ2.out); clear y0 f0 m4 f4; have y0 := HC4.out.at_ 0; have f0 := HC4.out.open_ 0; have z0 := HZ4.out.at_ 0; have z1 := HZ4.out.at_ 1; have zf0 := HZ4.out.open_ 0; have zf1 := HZ4.out.open_ 1; have el : (L ++ [S]).length = k + 1 := (by rw [List.length_append, HN.out]; rfl); rw [el]))
        have hput := RP.put (n₀ := n₀) H.out.base HC4.out ⟨_, _, _, rfl⟩ HM4.out (fun T hT => by
          rcases List.mem_append.1 hT with hT | hT
          · exact H.out.each T hT
          · rw [List.mem_singleton] at hT; exact hT ▸ HSO.out) (by rw [el]; omega)
        rw [el] at hput
        have hX := HX.out
        rw [HRS.out] at hX
        injection hX with e1 hX
        injection hX with e2 hX
        injection hX with e3 e4
        subst e1 e2 e3 e4
        have hz5 := HZ4.out.other hnB 0 (.slice A5 (k + 1) c5)
        refine bodyPost_ret (res_ct rfl rfl (rid_load2 ((hz5.set 0 (.int .i64 (k : Int))).set 1 (.int .i64 0)))) rfl ?_
        have e5 : setP L k S = L ++ [S] := by
          have := setP_end (L := L) (S := S)
          rw [HN.out] at this; exact this
        rw [e5]
        exact RM.fin hput.1 (((Frm.of HB2.out H.out.size).trans (HF4.out.more (by decide))).trans (hput.2.more (by decide))) (Nat.le_refl _) H.out.size hz5
set_option maxHeartbeats 1000000 in
theorem put_r_long (n₀ B : Nat) (L : List (List Sl)) (A2 : Option Addr) (m c2 : Nat) (w : World) (h : RP w n₀ B L) (hm : 255 < m) :
    Calls Try.prog 22 #[.pointer (some ⟨B, 0, none⟩), .slice A2 m c2] w (RM w n₀ B L (.tuple #[.agg #[.int .i64 0, .int .i64 0], .int .i64 3])) := by
  have H := Lib.hid h
  have t1 : (255 : Int) < (m : Int) := by omega
  obtain ⟨W, hW⟩ : ∃ W, w.alloc (.cells #[.int .i64 0, .int .i64 0] 62) = W := ⟨_, rfl⟩
  have HB0 := Lib.hid (show Below w.heap.size w W by rw [← hW]; exact al (Below.refl _ _) _)
  have HZ0 := Lib.hid (show Cel W w.heap.size 62 #[.int .i64 0, .int .i64 0] by rw [← hW]; exact Cel.new w _ _ rfl)
  have z0 := HZ0.out.at_ 0
  have z1 := HZ0.out.at_ 1
  have zf0 := HZ0.out.open_ 0
  have zf1 := HZ0.out.open_ 1
  clear h
  go_enter Try.func22, Try.ntmps22
  go_upto_region 1 with fail
  clear hW
  go_wp2
  refine bodyPost_ret (res_ct rfl rfl (rid_load2 ((HZ0.out.set 0 (.int .i64 0)).set 1 (.int .i64 0)))) rfl ?_
  exact RM.same H.out HB0.out (Nat.le_refl _) HZ0.out
theorem put_r (n₀ B : Nat) (L : List (List Sl)) (A2 : Option Addr) (m c2 : Nat) (d : List UInt8) (w : World) (h : RP w n₀ B L) (hd : Bs w A2 m c2 d) (x : Option (List (List Sl))) (p s y : Int) (hx : putD L d = (x, p, s, y)) :
    Calls Try.prog 22 #[.pointer (some ⟨B, 0, none⟩), .slice A2 m c2] w (RM w n₀ B (x.getD L) (.tuple #[.agg #[.int .i64 p, .int .i64 s], .int .i64 y])) := by
  have hdm : d.length = m := hd.2.1
  unfold putD at hx
  by_cases h5 : 255 < d.length
  · rw [if_pos h5] at hx
    cases hx
    exact put_r_long n₀ B L A2 m c2 w h (by omega)
  · rw [if_neg h5] at hx
    exact put_r_in n₀ B L A2 m c2 d w h hd (by omega) x p s y hx
end Go.Proofs.Ythcilmlaoddckaa.Pg
