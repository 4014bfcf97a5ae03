import Derived.Test.YthcilmlaoddckaaHeapRefDrop
/- The document's heap: Set, where it is refused and where there is room. -/
namespace Go.Proofs.Ythcilmlaoddckaa.Pg
open Go.RowKit Go.Proofs.Ythcilmlaoddckaa.Mem Go.Proofs.Ythcilmlaoddckaa.Right
set_option linter.unusedVariables false

structure Two2 (w W : World) (p s : Int) : Prop where
  below : Below w.heap.size w W
  at_ : Cel W w.heap.size 62 #[.int .i64 p, .int .i64 s]
  res : Cel W (w.heap.size + 1) 62 #[.int .i64 0, .int .i64 0]
theorem Two2.start (w : World) (p s : Int) : Two2 w ((w.alloc (.cells #[.int .i64 p, .int .i64 s] 62)).alloc (.cells #[.int .i64 0, .int .i64 0] 62)) p s :=
  ⟨al (al (Below.refl _ _) _) _, (Cel.new w _ _ rfl).alloc _, Cel.new (w.alloc _) _ _ (by simp)⟩
theorem Two2.on {w W W' : World} {p s : Int} (h : Two2 w W p s) (hb : Below W.heap.size W W') : Two2 w W' p s := ⟨Mem.on h.below hb, h.at_.below hb, h.res.below hb⟩
set_option maxRecDepth 100000 in
set_option maxHeartbeats 1000000 in
theorem set_r_long (n₀ B : Nat) (L : List (List Sl)) (p s : Int) (A2 : Option Addr) (m c2 : Nat) (w : World) (h : RP w n₀ B L) (hm : 255 < m) :
    Calls Try.prog 23 #[.pointer (some ⟨B, 0, none⟩), .agg #[.int .i64 p, .int .i64 s], .slice A2 m c2] w (RM w n₀ B L (.tuple #[.agg #[.int .i64 0, .int .i64 0], .int .i64 3])) := by
  obtain ⟨W, hW⟩ : ∃ W, (w.alloc (.cells #[.int .i64 p, .int .i64 s] 62)).alloc (.cells #[.int .i64 0, .int .i64 0] 62) = W := ⟨_, rfl⟩
  have HT := Lib.hid (hW ▸ Two2.start w p s)
  have H := Lib.hid h
  have t1 : (255 : Int) < (m : Int) := by omega
  have v0 := HT.out.res.at_ 0
  have v1 := HT.out.res.at_ 1
  have f0 := HT.out.res.open_ 0
  have f1 := HT.out.res.open_ 1
  clear h
  go_enter Try.func23, Try.ntmps23
  go_upto_region 1 with fail
  clear hW
  go_wp2
  refine bodyPost_ret (res_ct rfl rfl (rid_load2 ((HT.out.res.set 0 (.int .i64 0)).set 1 (.int .i64 0)))) rfl ?_
  exact RM.same H.out HT.out.below (Nat.le_succ _) HT.out.res
set_option maxRecDepth 100000 in
set_option maxHeartbeats 1000000 in
theorem set_r_no (n₀ B : Nat) (L : List (List Sl)) (p s : Int) (A2 : Option Addr) (m c2 : Nat) (w : World) (h : RP w n₀ B L) (hm : ¬ 255 < m) (hh : hasH L p s = false) :
    Calls Try.prog 23 #[.pointer (some ⟨B, 0, none⟩), .agg #[.int .i64 p, .int .i64 s], .slice A2 m c2] w (RM w n₀ B L (.tuple #[.agg #[.int .i64 0, .int .i64 0], .int .i64 4])) := by
  obtain ⟨W, hW⟩ : ∃ W, (w.alloc (.cells #[.int .i64 p, .int .i64 s] 62)).alloc (.cells #[.int .i64 0, .int .i64 0] 62) = W := ⟨_, rfl⟩
  have HT := Lib.hid (hW ▸ Two2.start w p s)
  have H := Lib.hid h
  have HH := Lib.hid (has_any n₀ B L p s false hh _ (h.below HT.out.below))
  have t1 : ¬ (255 : Int) < (m : Int) := by omega
  have z0 := HT.out.at_.at_ 0
  have z1 := HT.out.at_.at_ 1
  clear h
  go_enter Try.func23, Try.ntmps23
  go_upto_region 1 with fail
  clear hW
  go_wp2_with (go_at_call 39; (with_reducible refine HH.out.mono ?_); rintro e w1 ⟨rfl, hb1⟩; have HT1 := Lib.hid (HT.out.on hb1); have v0 := HT1.out.res.at_ 0; have v1 := HT1.out.res.at_ 1; have f0 := HT1.out.res.open_ 0; have f1 := HT1.out.res.open_ 1; clear hb1)
  refine bodyPost_ret (res_ct rfl rfl (rid_load2 ((HT1.out.res.set 0 (.int .i64 0)).set 1 (.int .i64 0)))) rfl ?_
  exact RM.same H.out HT1.out.below (Nat.le_succ _) HT1.out.res
/-- What is known where there is data at a place: the heap's list, the page's slots. -/
structure Spt (w : World) (n₀ B : Nat) (L : List (List Sl)) (k g c : Nat) (rA : Option Addr) (rn rc n : Nat) : Prop where
  len : L.length = n
  lt : k < n
  list : ∀ W, Below w.heap.size w W → W.cell? ⟨B, 0, none⟩ = some (.slice (some ⟨g, 0, none⟩) n c)
  slot : ∀ W, Below w.heap.size w W → W.frozen? ⟨g, k, none⟩ = false ∧ W.cell? ⟨g, k, none⟩ = some (.slice rA rn rc)
  rl : RL w rA rn rc (pageOf L k)
  few : rn ≤ 1000
  ne : g ≠ B
  old : g < w.heap.size ∧ B < w.heap.size
theorem Spt.of {w : World} {n₀ B k : Nat} {L : List (List Sl)} (h : RP w n₀ B L) (hk : k < L.length) : ∃ g c rA rn rc n, Spt w n₀ B L k g c rA rn rc n := by
  obtain ⟨A, c, ⟨y0, _⟩, _, hA, hc1, hc2⟩ := h.open_
  obtain ⟨g, cap, r, ev, hg, _, cg, _, hr⟩ := hA.get hk
  injection ev with e1 e2 e3
  subst e1 e3
  obtain ⟨rA, rn, rc⟩ := r
  have hrl := hr.len
  simp only at hrl hr
  have hcg : w.cell? ⟨g, k, none⟩ = some (.slice rA rn rc) := cg
  have hgw := cell_lt cg
  refine ⟨g, c, rA, rn, rc, L.length, rfl, hk, fun W hW => (hW.cell (p := ⟨B, 0, none⟩) h.lt).trans y0, fun W hW => ?_, hr, ?_, h.ne y0, hgw, h.lt⟩
  · obtain ⟨_, _, _, ev, _, _, _, f, _⟩ := (hA.below hW).get hk
    injection ev with ev
    injection ev with ev
    injection ev with ev
    subst ev
    exact ⟨f, (hW.cell (p := ⟨g, k, none⟩) hgw).trans hcg⟩
  · have h2 := (ok_page h.each k).fit.room
    omega
set_option maxRecDepth 100000 in
set_option maxHeartbeats 4000000 in
theorem set_r_in (n₀ B : Nat) (L : List (List Sl)) (k j : Nat) (A2 : Option Addr) (m c2 : Nat) (d : List UInt8) (S : List Sl) (w : World) (h : RP w n₀ B L) (hm : ¬ 255 < m) (hd : Bs w A2 m c2 d) (hk : k < L.length) (hh : hasH L (k : Int) (j : Int) = true) (hS : setV (pageOf L k) (j : Int) d = (some S, 0)) :
    Calls Try.prog 23 #[.pointer (some ⟨B, 0, none⟩), .agg #[.int .i64 (k : Int), .int .i64 (j : Int)], .slice A2 m c2] w (RM w n₀ B (L.set k S) (.tuple #[.agg #[.int .i64 (k : Int), .int .i64 (j : Int)], .int .i64 0])) := by
  obtain ⟨W, hW⟩ : ∃ W, (w.alloc (.cells #[.int .i64 (k : Int), .int .i64 (j : Int)] 62)).alloc (.cells #[.int .i64 0, .int .i64 0] 62) = W := ⟨_, rfl⟩
  have HT := Lib.hid (hW ▸ Two2.start w (k : Int) (j : Int))
  have H := Lib.hid h
  have HD := Lib.hid hd
  have HH := Lib.hid (has_any n₀ B L (k : Int) (j : Int) true hh _ (h.below HT.out.below))
  have HOK := Lib.hid (ok_page h.each k)
  have HV := Lib.hid hS
  have HSO := Lib.hid (setV_yes HOK.out hS).1
  obtain ⟨g, c, rA, rn, rc, n, hsp⟩ := Spt.of h hk
  have HP := Lib.hid hsp
  have hkn : (k : Int) < (n : Int) := by have := hsp.lt; omega
  have hgB := hsp.ne
  have hBg : B ≠ g := fun e => hgB e.symm
  have hgw := hsp.old
  have t1 : ¬ (255 : Int) < (m : Int) := by omega
  have z0 := HT.out.at_.at_ 0
  have z1 := HT.out.at_.at_ 1
  clear h hd hh hS hsp
  go_enter Try.func23, Try.ntmps23
  go_upto_region 1 with fail
  clear hW
  go_upto_region 5 with (go_at_call 39; (with_reducible refine HH.out.mono ?_); rintro e w1 ⟨rfl, hb1⟩; have HT1 := Lib.hid (HT.out.on hb1); clear hb1)
  clear z0 z1
  have z0 := HT1.out.at_.at_ 0
  have z1 := HT1.out.at_.at_ 1
  have q0 := HP.out.list w1 HT1.out.below
  obtain ⟨qf, qc⟩ := HP.out.slot w1 HT1.out.below
  have HKW := Lib.hid (show ∀ W, Below w1.drew.heap.size w1.drew W → W.cell? ⟨w.heap.size, 0, none⟩ = some (.int .i64 (k : Int)) ∧ W.cell? ⟨w.heap.size, 1, none⟩ = some (.int .i64 (j : Int)) ∧ W.cell? ⟨B, 0, none⟩ = some (.slice (some ⟨g, 0, none⟩) n c) ∧ W.cell? ⟨g, k, none⟩ = some (.slice rA rn rc) from fun W hW => by
    have ht := HT1.out.on (undraw hW)
    exact ⟨ht.at_.at_ 0, ht.at_.at_ 1, HP.out.list W ht.below, (HP.out.slot W ht.below).2⟩)
  have HRD := Lib.hid (show RL w1.drew rA rn rc (pageOf L k) from (HP.out.rl.below HT1.out.below).below (Below.refl _ _).drew)
  have HDD := Lib.hid (show Bs w1.drew A2 m c2 d from (HD.out.below HT1.out.below).below (Below.refl _ _).drew)
  go_region_held3 (fun W => W.cell? ⟨w.heap.size, 0, none⟩ = some (.int .i64 (k : Int)) ∧ W.cell? ⟨w.heap.size, 1, none⟩ = some (.int .i64 (j : Int)) ∧ W.cell? ⟨B, 0, none⟩ = some (.slice (some ⟨g, 0, none⟩) n c) ∧ W.cell? ⟨g, k, none⟩ = some (.slice rA rn rc))
    (first | go_keep | exact ⟨p0, p1, p2, p3⟩)
    (first | (go_simp; go_at_call 40; (with_reducible refine (set_ref rA A2 rn rc m c2 (pageOf L k) (j : Int) d _ HRD.out HOK.out HDD.out (some S) 0 HV.out).mono ?_); rintro e w2 ⟨⟨A3, c3, rfl, hr3⟩, hb2⟩; have HR3 := Lib.hid hr3; have HT2 := Lib.hid (HT1.out.on (undraw hb2)); obtain ⟨p0, p1, p2, p3⟩ := HKW.out w2 hb2; clear hb2 hr3))
  clear z0 z1 q0 qf qc
  go_upto_region 7 with fail
  obtain ⟨qf, _⟩ := HP.out.slot w2 HT2.out.below
  have n3 : g ≠ w.heap.size := by omega
  have n4 : w.heap.size ≠ g := by omega
  have n5 : g ≠ w.heap.size + 1 := by omega
  have n6 : w.heap.size + 1 ≠ g := by omega
  go_region_held3 (fun W => W.cell? ⟨w.heap.size, 0, none⟩ = some (.int .i64 (k : Int)) ∧ W.cell? ⟨B, 0, none⟩ = some (.slice (some ⟨g, 0, none⟩) n c))
    (first | go_keep | exact ⟨p0, p2⟩)
    (first | fail)
  have hset := (H.out.below HT2.out.below).set hk (r := ⟨A3, S.length, c3⟩) HR3.out HSO.out g c (by rw [HP.out.len]; exact p2)
  have HS1 : Hid (RP (w2.setCell ⟨g, k, none⟩ (.slice A3 S.length c3)) n₀ B (L.set k S)) := Lib.hid hset.1
  have HS2 : Hid (Frm [72] n₀ w2 (w2.setCell ⟨g, k, none⟩ (.slice A3 S.length c3))) := Lib.hid hset.2
  have HZ3 := Lib.hid (HT2.out.res.other (b := g) n5 k (.slice A3 S.length c3))
  have z0 := HT2.out.at_.at_ 0
  have z1 := HT2.out.at_.at_ 1
  have v0 := HT2.out.res.at_ 0
  have v1 := HT2.out.res.at_ 1
  have f0 := HT2.out.res.open_ 0
  have f1 := HT2.out.res.open_ 1
  clear hset
  go_wp2
  have HZ4 : Cel (w2.setCell ⟨g, k, none⟩ (.slice A3 S.length c3)).drew (w.heap.size + 1) 62 #[.int .i64 0, .int .i64 0] := HZ3.out
  refine bodyPost_ret (res_ct rfl rfl (rid_load2 ((HZ4.set 0 (.int .i64 (k : Int))).set 1 (.int .i64 (j : Int))))) rfl ?_
  exact RM.fin (HS1.out.below (Below.refl _ _).drew) (((Frm.of HT2.out.below H.out.size).trans (HS2.out.more (by decide))).on H.out.size (Below.refl _ _).drew) (Nat.le_succ _) H.out.size HZ4
end Go.Proofs.Ythcilmlaoddckaa.Pg
/- The document's heap: Set, where the page has not the room. -/
namespace Go.Proofs.Ythcilmlaoddckaa.Pg
open Go.RowKit Go.Proofs.Ythcilmlaoddckaa.Mem Go.Proofs.Ythcilmlaoddckaa.Right
set_option linter.unusedVariables false

theorem set_back {L : List (List Sl)} {k : Nat} {S : List Sl} (hk : k < L.length) : (L.set k S).set k (pageOf L k) = L := by
  rw [List.set_set]
  apply List.ext_getElem?
  intro i
  rw [List.getElem?_set]
  by_cases e : k = i
  · subst e
    rw [if_pos rfl, if_pos hk, pageOf_lt hk]
  · rw [if_neg e]
theorem RL.of_frm {T : List TypeId} {n₁ : Nat} {w a b : World} {A : Option Addr} {n c : Nat} {S : List Sl} (h : RL w A n c S) (hb : Below w.heap.size w a) (hf : Frm T n₁ a b) (ht : 74 ∉ T) : RL b A n c S := hf.rl ht (h.below hb)
/-- The list lies beside blocks of other types. -/
theorem RP.apart {w : World} {n₀ B g n c b : Nat} {L : List (List Sl)} {t : TypeId} {cs : Array Value} (h : RP w n₀ B L) (hc : w.cell? ⟨B, 0, none⟩ = some (.slice (some ⟨g, 0, none⟩) n c)) (hz : Cel w b t cs) (ht : t ≠ 72) : g ≠ b := by
  obtain ⟨_, _, v, hcel, rs, _, _, hA⟩ := h
  have h0 := hcel.at_ 0
  rw [hc] at h0
  obtain rfl : v = .slice (some ⟨g, 0, none⟩) n c := by injection h0 with h0; exact h0.symm
  rcases hA with ⟨e, _⟩ | ⟨g', cap, cur, e, _, hh, _⟩
  · cases e
  · injection e with e
    injection e with e
    injection e with e
    subst e
    rintro rfl
    have := hh.symm.trans hz
    injection this with this
    injection this with _ e2 _
    exact ht e2.symm
set_option maxRecDepth 100000 in
set_option maxHeartbeats 4000000 in
theorem set_r_full (n₀ B : Nat) (L : List (List Sl)) (k j : Nat) (A2 : Option Addr) (m c2 : Nat) (d : List UInt8) (S : List Sl) (w : World) (h : RP w n₀ B L) (hm : ¬ 255 < m) (hd : Bs w A2 m c2 d) (hk : k < L.length) (hh : hasH L (k : Int) (j : Int) = true) (hS : setV (pageOf L k) (j : Int) d = (none, 5)) (hS2 : dropV (pageOf L k) (j : Int) = (some S, 0))
    (x : Option (List (List Sl))) (p s y : Int) (hx : putD (L.set k S) d = (x, p, s, y)) :
    Calls Try.prog 23 #[.pointer (some ⟨B, 0, none⟩), .agg #[.int .i64 (k : Int), .int .i64 (j : Int)], .slice A2 m c2] w (RM w n₀ B ((x.map trimH).getD L) (.tuple #[.agg #[.int .i64 p, .int .i64 s], .int .i64 y])) := by
  obtain ⟨W, hW⟩ : ∃ W, (w.alloc (.cells #[.int .i64 (k : Int), .int .i64 (j : Int)] 62)).alloc (.cells #[.int .i64 0, .int .i64 0] 62) = W := ⟨_, rfl⟩
  have HT := Lib.hid (hW ▸ Two2.start w (k : Int) (j : Int))
  have H := Lib.hid h
  have HD := Lib.hid hd
  have HH := Lib.hid (has_any n₀ B L (k : Int) (j : Int) true hh _ (h.below HT.out.below))
  have HOK := Lib.hid (ok_page h.each k)
  have HV := Lib.hid hS
  have HV2 := Lib.hid hS2
  have HX := Lib.hid hx
  have HSO := Lib.hid (dropV_yes HOK.out hS2).1
  obtain ⟨g, c, rA, rn, rc, n, hsp⟩ := Spt.of h hk
  have HP := Lib.hid hsp
  have hkn : (k : Int) < (n : Int) := by have := hsp.lt; omega
  have hgB := hsp.ne
  have hBg : B ≠ g := fun e => hgB e.symm
  have hgw := hsp.old
  have t1 : ¬ (255 : Int) < (m : Int) := by omega
  have z0 := HT.out.at_.at_ 0
  have z1 := HT.out.at_.at_ 1
  have n3 : g ≠ w.heap.size := by omega
  have n4 : w.heap.size ≠ g := by omega
  have n5 : g ≠ w.heap.size + 1 := by omega
  have n6 : w.heap.size + 1 ≠ g := by omega
  clear h hd hh hS hS2 hsp hx
  go_enter Try.func23, Try.ntmps23
  go_upto_region 1 with fail
  clear hW
  go_upto_region 5 with (go_at_call 39; (with_reducible refine HH.out.mono ?_); rintro e w1 ⟨rfl, hb1⟩; have HT1 := Lib.hid (HT.out.on hb1); clear hb1)
  clear z0 z1
  have z0 := HT1.out.at_.at_ 0
  have z1 := HT1.out.at_.at_ 1
  have q0 := HP.out.list w1 HT1.out.below
  obtain ⟨qf, qc⟩ := HP.out.slot w1 HT1.out.below
  have HKW := Lib.hid (show ∀ W, Below w1.drew.heap.size w1.drew W → W.cell? ⟨w.heap.size, 0, none⟩ = some (.int .i64 (k : Int)) ∧ W.cell? ⟨w.heap.size, 1, none⟩ = some (.int .i64 (j : Int)) ∧ W.cell? ⟨B, 0, none⟩ = some (.slice (some ⟨g, 0, none⟩) n c) ∧ W.cell? ⟨g, k, none⟩ = some (.slice rA rn rc) from fun W hW => by
    have ht := HT1.out.on (undraw hW)
    exact ⟨ht.at_.at_ 0, ht.at_.at_ 1, HP.out.list W ht.below, (HP.out.slot W ht.below).2⟩)
  have HRD := Lib.hid (show RL w1.drew rA rn rc (pageOf L k) from (HP.out.rl.below HT1.out.below).below (Below.refl _ _).drew)
  have HDD := Lib.hid (show Bs w1.drew A2 m c2 d from (HD.out.below HT1.out.below).below (Below.refl _ _).drew)
  go_region_held3 (fun W => W.cell? ⟨w.heap.size, 0, none⟩ = some (.int .i64 (k : Int)) ∧ W.cell? ⟨w.heap.size, 1, none⟩ = some (.int .i64 (j : Int)) ∧ W.cell? ⟨B, 0, none⟩ = some (.slice (some ⟨g, 0, none⟩) n c) ∧ W.cell? ⟨g, k, none⟩ = some (.slice rA rn rc))
    (first | go_keep | exact ⟨p0, p1, p2, p3⟩)
    (first | (go_simp; go_at_call 40; (with_reducible refine (set_ref rA A2 rn rc m c2 (pageOf L k) (j : Int) d _ HRD.out HOK.out HDD.out none 5 HV.out).mono ?_); rintro e w2 ⟨rfl, hb2⟩; have HT2 := Lib.hid (HT1.out.on (undraw hb2)); obtain ⟨p0, p1, p2, p3⟩ := HKW.out w2 hb2; clear hb2))
  clear z0 z1 q0 qf qc
  go_upto_region 9 with fail
  go_quiet (fail)
  obtain ⟨w3, hw3⟩ : ∃ w3, w2.drewN nq = w3 := ⟨_, rfl⟩
  have HT3 := Lib.hid (show Two2 w w3 (k : Int) (j : Int) by rw [← hw3]; exact HT2.out.on (below_drewN (Below.refl _ _) _))
  rw [hw3]
  clear hw3 p0 p1 p2 p3
  go_upto_region 10 with fail
  have z0 := HT3.out.at_.at_ 0
  have z1 := HT3.out.at_.at_ 1
  have q0 := HP.out.list w3 HT3.out.below
  obtain ⟨qf, qc⟩ := HP.out.slot w3 HT3.out.below
  have HKW3 := Lib.hid (show ∀ W, Below w3.drew.heap.size w3.drew W → (W.cell? ⟨w.heap.size, 0, none⟩ = some (.int .i64 (k : Int)) ∧ W.cell? ⟨w.heap.size, 1, none⟩ = some (.int .i64 (j : Int)) ∧ W.cell? ⟨B, 0, none⟩ = some (.slice (some ⟨g, 0, none⟩) n c)) ∧ W.frozen? ⟨g, k, none⟩ = false ∧ W.cell? ⟨g, k, none⟩ = some (.slice rA rn rc) from fun W hW => by
    have ht := HT3.out.on (undraw hW)
    exact ⟨⟨ht.at_.at_ 0, ht.at_.at_ 1, HP.out.list W ht.below⟩, HP.out.slot W ht.below⟩)
  have HRD3 := Lib.hid (show RL w3.drew rA rn rc (pageOf L k) from (HP.out.rl.below HT3.out.below).below (Below.refl _ _).drew)
  have HRN := Lib.hid HP.out.few
  go_region_held3 (fun W => W.cell? ⟨w.heap.size, 0, none⟩ = some (.int .i64 (k : Int)) ∧ W.cell? ⟨w.heap.size, 1, none⟩ = some (.int .i64 (j : Int)) ∧ W.cell? ⟨B, 0, none⟩ = some (.slice (some ⟨g, 0, none⟩) n c))
    (first | go_keep | exact ⟨p0, p1, p2⟩)
    (first | (go_simp; go_at_call 41; (with_reducible refine (drop_ref rA rn rc (pageOf L k) (j : Int) _ HRD3.out HRN.out (some S) 0 HV2.out).mono ?_); rintro e w4 ⟨⟨A3, c3, rfl, hr3⟩, hb4⟩; have HR3 := Lib.hid hr3; have HT4 := Lib.hid (HT3.out.on (undraw hb4)); obtain ⟨⟨p0, p1, p2⟩, pf, pc⟩ := HKW3.out w4 hb4; clear hb4 hr3))
  have hset := (H.out.below HT4.out.below).set hk (r := ⟨A3, S.length, c3⟩) HR3.out HSO.out g c (by rw [HP.out.len]; exact p2)
  obtain ⟨w5, hw5⟩ : ∃ w5, w4.setCell ⟨g, k, none⟩ (.slice A3 S.length c3) = w5 := ⟨_, rfl⟩
  have HS5 : Hid (RP w5 n₀ B (L.set k S)) := Lib.hid (by rw [← hw5]; exact hset.1)
  have HF5 : Hid (Frm [72] n₀ w4 w5) := Lib.hid (by rw [← hw5]; exact hset.2)
  have HA5 := Lib.hid (HF5.out.cel (by decide) HT4.out.at_)
  have HZ5 := Lib.hid (HF5.out.cel (by decide) HT4.out.res)
  have HD5 := Lib.hid (HF5.out.bs (HD.out.below HT4.out.below))
  have HW5 := Lib.hid (HF5.out.rl (by decide) (HP.out.rl.below HT4.out.below))
  have HG5 := Lib.hid (show Frm [28, 72] n₀ w w5 from (Frm.of HT4.out.below H.out.size).trans (HF5.out.more (by decide)))
  clear hset p0 p1 p2 pf pc z0 z1 q0 qf qc
  go_upto_region 12 with (go_at_call 22; (with_reducible refine (put_r n₀ B (L.set k S) A2 m c2 d _ HS5.out HD5.out x p s y HX.out).mono ?_); rintro e w6 ⟨rfl, hr6, hf6⟩; have HR6 := Lib.hid hr6; have HF6 := Lib.hid hf6; clear hr6 hf6)
  have hR7 := HR6.out.below (al (Below.refl _ _) (.cells #[.int .i64 p, .int .i64 s] 62))
  have hG7 := (HG5.out.trans HF6.out).on H.out.size (al (Below.refl _ _) (.cells #[.int .i64 p, .int .i64 s] 62))
  have hA7 := (HF6.out.cel (by decide) HA5.out).alloc (.cells #[.int .i64 p, .int .i64 s] 62)
  have hZ7 := (HF6.out.cel (by decide) HZ5.out).alloc (.cells #[.int .i64 p, .int .i64 s] 62)
  have hW7 := (HF6.out.rl (by decide) HW5.out).below (al (Below.refl _ _) (.cells #[.int .i64 p, .int .i64 s] 62))
  have hT7 := Cel.new w6 62 #[.int .i64 p, .int .i64 s] rfl
  have hlt : w.heap.size + 1 < w6.heap.size := blk_lt (HF6.out.cel (by decide) HZ5.out)
  generalize w6.alloc (.cells #[.int .i64 p, .int .i64 s] 62) = W7 at hR7 hG7 hA7 hZ7 hW7 hT7 ⊢
  generalize w6.heap.size = T at hlt hT7 ⊢
  have HR7 := Lib.hid hR7
  have HG7 := Lib.hid hG7
  have HA7 := Lib.hid hA7
  have HZ7 := Lib.hid hZ7
  have HW7 := Lib.hid hW7
  have HT7 := Lib.hid hT7
  clear hR7 hG7 hA7 hZ7 hW7 hT7
  have hdm : d.length ≤ 255 := by have := HD5.out.2.1; omega
  have hX := HX.out
  unfold putD at hX
  rw [if_neg (by omega)] at hX
  have hOL : ∀ T ∈ L.set k S, Ok T := ok_set H.out.each HSO.out
  have v0 := HZ7.out.at_ 0
  have v1 := HZ7.out.at_ 1
  have vf0 := HZ7.out.open_ 0
  have vf1 := HZ7.out.open_ 1
  have hBs := hgw.2
  have m1 : B ≠ w.heap.size := by omega
  have m2 : w.heap.size ≠ B := by omega
  have m3 : B ≠ w.heap.size + 1 := by omega
  have m4 : w.heap.size + 1 ≠ B := by omega
  cases x with
  | none =>
    obtain ⟨rfl, rfl, rfl, _⟩ := putH_none hOL hdm hX
    clear hX hOL
    have hkl : k < (L.set k S).length := by rw [List.length_set]; exact hk
    obtain ⟨g7, c7, sA, sn, sc, n7, hsp⟩ := Spt.of HR7.out hkl
    have HQ7 := Lib.hid hsp
    have hn7 : (k : Int) < (n7 : Int) := by have := hsp.lt; omega
    have q0 := hsp.list W7 (Below.refl _ _)
    obtain ⟨qf, qc⟩ := hsp.slot W7 (Below.refl _ _)
    have k1 := hsp.ne
    have k2 : B ≠ g7 := fun e => k1 e.symm
    have k3 : g7 ≠ w.heap.size := HR7.out.apart q0 HA7.out (by decide)
    have k4 : w.heap.size ≠ g7 := fun e => k3 e.symm
    have k5 : g7 ≠ w.heap.size + 1 := HR7.out.apart q0 HZ7.out (by decide)
    have k6 : w.heap.size + 1 ≠ g7 := fun e => k5 e.symm
    have z0 := HA7.out.at_ 0
    clear hsp
    go_upto_region 13 with fail
    go_region_held3 (fun W => W.cell? ⟨w.heap.size, 0, none⟩ = some (.int .i64 (k : Int)) ∧ W.cell? ⟨B, 0, none⟩ = some (.slice (some ⟨g7, 0, none⟩) n7 c7))
      (first | go_keep | exact ⟨z0, q0⟩)
      (first | fail)
    have hset := HR7.out.set hkl (r := ⟨rA, rn, rc⟩) HW7.out HOK.out g7 c7 (by rw [HQ7.out.len]; exact q0)
    have HS8 : Hid (RP (W7.setCell ⟨g7, k, none⟩ (.slice rA rn rc)) n₀ B L) := Lib.hid (by
      have := hset.1
      rw [show (none.getD (L.set k S)) = L.set k S from rfl, set_back hk] at this
      exact this)
    have HF8 : Hid (Frm [72] n₀ W7 (W7.setCell ⟨g7, k, none⟩ (.slice rA rn rc))) := Lib.hid hset.2
    have HZ8 : Hid (Cel (W7.setCell ⟨g7, k, none⟩ (.slice rA rn rc)).drew (w.heap.size + 1) 62 #[.int .i64 0, .int .i64 0]) := Lib.hid (HZ7.out.other (b := g7) k5 k (.slice rA rn rc))
    clear hset
    go_wp2
    refine bodyPost_ret (res_ct rfl rfl (rid_load2 ((HZ8.out.set 0 (.int .i64 0)).set 1 (.int .i64 0)))) rfl ?_
    exact RM.fin (HS8.out.below (Below.refl _ _).drew) ((HG7.out.trans (HF8.out.more (by decide))).on H.out.size (Below.refl _ _).drew) (Nat.le_succ _) H.out.size HZ8.out
  | some L2 =>
    have hy : y = 0 := by
      rcases putH_cases hOL hdm with ⟨k', S', s', h1, h2, h3, h4, h5⟩ | ⟨h1, h2, h5⟩
      · rw [h5] at hX; cases hX; rfl
      · rw [h5] at hX; cases hX
    subst hy
    have HR7' : Hid (RP W7 n₀ B L2) := HR7
    clear hX hOL
    go_wp2_with (go_at_call 42; (with_reducible refine (trim_r n₀ B L2 _ HR7'.out).mono ?_); rintro e w8 ⟨rfl, hr8, hf8⟩; have HR8 := Lib.hid hr8; have HF8 := Lib.hid hf8; have HT8 := Lib.hid (hf8.cel (by decide) HT7.out); have HZ8 := Lib.hid (hf8.cel (by decide) HZ7.out); clear v0 v1 vf0 vf1; have v0 := HZ8.out.at_ 0; have v1 := HZ8.out.at_ 1; have vf0 := HZ8.out.open_ 0; have vf1 := HZ8.out.open_ 1; have u0 := HT8.out.at_ 0; have u1 := HT8.out.at_ 1; clear hr8 hf8)
    refine bodyPost_ret (res_ct rfl rfl (rid_load2 ((HZ8.out.set 0 (.int .i64 p)).set 1 (.int .i64 s)))) rfl ?_
    exact RM.fin HR8.out (HG7.out.trans HF8.out) (Nat.le_succ _) H.out.size HZ8.out
end Go.Proofs.Ythcilmlaoddckaa.Pg
/- The document's heap: Set, whole; All; Pages. -/
namespace Go.Proofs.Ythcilmlaoddckaa.Pg
open Go.RowKit Go.Proofs.Ythcilmlaoddckaa.Mem Go.Proofs.Ythcilmlaoddckaa.Right
set_option linter.unusedVariables false

theorem setH_no {L : List (List Sl)} {p s : Int} {d : List UInt8} (hd : ¬ 255 < d.length) (h : hasH L p s = false) : setH L p s d = (none, 0, 0, 4) := by
  unfold setH
  rw [if_neg hd]
  rcases hasH_full h with hp | hf
  · rw [if_neg hp]
  · by_cases hp : inH L p
    · rw [if_pos hp]
      unfold setK setV
      rw [if_neg hd, if_neg hf]
      rfl
    · rw [if_neg hp]
theorem setH_at {L : List (List Sl)} {k : Nat} {s : Int} {d : List UInt8} (hd : ¬ 255 < d.length) (hk : k < L.length) : setH L (k : Int) s d = setK L k s d := by
  unfold setH
  rw [if_neg hd, if_pos ⟨by omega, by rw [Int.toNat_natCast]; exact hk⟩, Int.toNat_natCast]
theorem setV_five {S : List Sl} {j : Nat} {d d0 : List UInt8} {y : Int} (hd : ¬ 255 < d.length) (h : S[j]? = some (some d0)) (hx : setV S (j : Int) d = (none, y)) : y = 5 := by
  unfold setV at hx
  rw [if_neg hd, if_pos ⟨by omega, by rw [Int.toNat_natCast, full_of h]; rfl⟩] at hx
  split at hx
  · cases hx; rfl
  · cases hx
theorem set_r (n₀ B : Nat) (L : List (List Sl)) (p s : Int) (A2 : Option Addr) (m c2 : Nat) (d : List UInt8) (w : World) (h : RP w n₀ B L) (hd : Bs w A2 m c2 d) (x : Option (List (List Sl))) (p' q y : Int) (hx : setH L p s d = (x, p', q, y)) :
    Calls Try.prog 23 #[.pointer (some ⟨B, 0, none⟩), .agg #[.int .i64 p, .int .i64 s], .slice A2 m c2] w (RM w n₀ B (x.getD L) (.tuple #[.agg #[.int .i64 p', .int .i64 q], .int .i64 y])) := by
  have hdm : d.length = m := hd.2.1
  by_cases h5 : 255 < d.length
  · unfold setH at hx
    rw [if_pos h5] at hx
    cases hx
    exact set_r_long n₀ B L p s A2 m c2 w h (by omega)
  · cases hh : hasH L p s with
    | false =>
      rw [setH_no h5 hh] at hx
      cases hx
      exact set_r_no n₀ B L p s A2 m c2 w h (by omega) hh
    | true =>
      obtain ⟨k, j, d0, rfl, rfl, hk, hj, hd0⟩ := has_at hh
      rw [setH_at h5 hk] at hx
      unfold setK at hx
      obtain ⟨sx, sy, hsx⟩ : ∃ sx sy, setV (pageOf L k) (j : Int) d = (sx, sy) := ⟨_, _, rfl⟩
      rw [hsx] at hx
      cases sx with
      | some S =>
        obtain ⟨_, rfl, _⟩ := setV_yes (ok_page h.each k) hsx
        cases hx
        exact set_r_in n₀ B L k j A2 m c2 d S w h (by omega) hd hk hh hsx
      | none =>
        obtain rfl := setV_five h5 hd0 hsx
        simp only [if_true] at hx
        unfold moveK dropP at hx
        rw [dropV_full hd0] at hx
        simp only at hx
        obtain ⟨x0, p0, s0, y0, hx0⟩ : ∃ x0 p0 s0 y0, putH (L.set k (drp (pageOf L k) j)) d = (x0, p0, s0, y0) := ⟨_, _, _, _, rfl⟩
        have hok := (dropV_yes (ok_page h.each k) (dropV_full hd0)).1
        rw [put_trim (ok_set h.each hok) (by rw [List.length_set]; exact h.few) (by omega) x0 p0 s0 y0 hx0] at hx
        cases hx
        exact set_r_full n₀ B L k j A2 m c2 d _ w h (by omega) hd hk hh hsx (dropV_full hd0) x0 _ _ _ (by unfold putD; rw [if_neg h5]; exact hx0)
theorem infoItem2 : (Try.prog.info? 76).map (fun i => (i.zero, i.size, i.bytes)) = some (some (.agg #[.int .i64 0, .int .i64 0, .slice none 0 0]), 3, 40) := by kernel_rfl
theorem elem_item2 : ElemN Try.prog 38 76 3 40 := ElemN.of Try.underlying38 infoItem2 rfl (by decide)
/-- Items of the call's own. -/
def MadeI (w : World) (v : Value) (xs : List Iv) (w' : World) : Prop := w'.ownsRow w.heap.size 76 3 v xs.length (ivcAll xs) ∧ Below w.heap.size w w'
theorem ivc_one {x : Iv} {A : Option Addr} {n c : Nat} (h : x.v = .slice A n c) : ∀ u ∈ ivc x, u.oneCell' = true := by
  intro u hu
  simp [ivc] at hu
  rcases hu with rfl | rfl | rfl
  · rfl
  · rfl
  · rw [h]; rfl
theorem wp_item {w0 w : World} {x : Iv} {A : Option Addr} {n c g : Nat} (hx : x.v = .slice A n c) (hg : w.heap.size = g) {ops : Array Oper} {rest : List Oper} {o : Oper} {a : Act} {Q : Exit → Act → World → Prop} (s y : Operand)
    (hgd : o.guard = none) (ho : o.op = .call { callee := .builtin .append, args := #[s, y], argTypes := #[38, 38] })
    {v : Value} {xs : List Iv} (hs : a.eval s = v) (hown : MadeI w0 v xs w) (hy : a.eval y = .slice (some ⟨g, 0, none⟩) 1 1) (hn : xs.length ≤ 100000)
    (k : ∀ v' w', MadeI w0 v' (xs ++ [x]) w' → wpList Try.prog ops Q rest (a.put o.dst v') w') :
    wpList Try.prog ops Q (o :: rest) a (w.alloc (.cells #[.int .i64 (x.it.p : Int), .int .i64 (x.it.s : Int), x.v] 76)) := by
  subst hg
  obtain ⟨i, z, ht, hi, hz, hz1, hz2, hzc, hpos⟩ := elem_item2
  refine wpList_append_own_at _ hgd s y 38 ho w0.heap.size 76 i z 3 40 ht hi hz hz1 hz2 hzc hpos v xs.length (ivcAll xs) hs (hown.1.alloc _) ⟨w.heap.size, 0, none⟩ 1 1 (ivc x) hy rfl (cells3_new _ _ _ _ _) (ivc_one hx) (by unfold maxLen; omega) (by omega) (by have := hown.2.size; simp; omega) ?_
  intro v' w' g1 g2 _ _
  refine k v' w' ⟨?_, (al hown.2 _).grown g2 (al hown.2 _).size (fun j hj => (hown.1.lt j hj).1)⟩
  rw [ivcAll_snoc]
  have e : (xs ++ [x]).length = xs.length + 1 := by simp
  rw [e]
  exact g1
end Go.Proofs.Ythcilmlaoddckaa.Pg
