/- The pairs from one on are told, in order, as long as more are asked for. -/
import Derived.Test.YtjlfacmmokfleaaBtTell
import Derived.Test.YtjlfacmmokfleaaBtHas
namespace Go.Proofs.Ytjlfacmmokfleaa.Bt
open Go.RowKit Go.Proofs.Ytjlfacmmokfleaa.Mem Go.Proofs.Ytjlfacmmokfleaa.Right
set_option linter.unusedVariables false

theorem slice_any {P : Program} {t e : TypeId} {k bytes : Nat} (E : ElemN P t e k bytes) (A : Option Addr) (n c j : Nat) (hj : j ≤ n) (hc : n ≤ c) : ∃ A2, (∀ g, A = some ⟨g, 0, none⟩ → j < c → A2 = some ⟨g, j * k, none⟩) ∧ ∀ w : World, (Instr.sliceAt t (.slice A n c) (some (.int .i64 (j : Int))) none none).run P w = .ok (.slice A2 (n - j) (c - j)) w := by
  have hl := elem_run E
  have he : P.elem t = e := by simp [Program.elem, hl]
  refine ⟨if c = j then A else A.map (·.add (j * k)), fun g hA h => ?_, fun W => ?_⟩
  · rw [if_neg (by omega), hA]
    simp only [Option.map_some, Addr.add]
    split <;> simp_all
  · rw [run_sliceAt_slice W _ _ _ _ _ (by rw [he]; exact hl), run_slice_l W t _ n c (by rw [he]; exact hl) .i64 j (by omega) (by omega), he, size_run E]
    simp only [Result.andThen, sliced, Int.toNat_natCast]
theorem all_take {α : Type} {L : List α} {f : α → Bool} {k : Nat} {r : α} (h : (L.take k).all f = true) (hr : L[k]? = some r) (hf : f r = true) : (L.take (k + 1)).all f = true := by
  rw [List.take_add_one, hr, List.all_append, h]; simp [hf]
theorem stop_at {α : Type} {L : List α} {f : α → Bool} {k : Nat} {r : α} (h : (L.take k).all f = true) (hr : L[k]? = some r) (hf : f r = false) : L.takeWhile f = L.take k ∧ L.all f = false := by
  have e : L = L.take k ++ r :: L.drop (k + 1) := by
    obtain ⟨h1, h2⟩ := List.getElem?_eq_some_iff.1 hr
    rw [← h2, ← List.drop_eq_getElem_cons h1, List.take_append_drop]
  have h2 : ∀ x ∈ L.take k, f x = true := List.all_eq_true.1 h
  constructor
  · conv => lhs; rw [e]
    rw [List.takeWhile_append_of_pos h2, List.takeWhile_cons, if_neg (by rw [hf]; decide), List.append_nil]
  · rw [e, List.all_append, List.all_cons, hf]; simp
theorem all_end {α : Type} {L : List α} {f : α → Bool} (h : L.all f = true) : L.takeWhile f = L := by
  have h2 : ∀ x ∈ L, f x = true := List.all_eq_true.1 h
  have := List.takeWhile_append_of_pos (l₂ := []) h2
  simpa using this
/-- The box of the pair from which on it is told. -/
def Bp (b : Nat) (p : Pr) (v : Value) (W : World) : Prop := Cel W b tP #[.slice p.a p.key.length p.c, .int .i64 p.num] ∧ v.ownBlock ≠ some b
theorem Bp.til {b lv : Nat} {p : Pr} {v v' : Value} {W W' : World} (h : Bp b p v W) (ht : Til lv v v' W W') (hb : b ≠ lv) : Bp b p v' W' :=
  ⟨ht.cel h.1 hb h.2, fun e => by
    rcases ht.2 with e2 | e2
    · exact h.2 (e2 ▸ e)
    · have := e2 b e
      have := h.1.lt
      omega⟩
theorem Bp.below {b : Nat} {p : Pr} {v : Value} {W W' : World} (h : Bp b p v W) (hb : Below W.heap.size W W') : Bp b p v W' := ⟨h.1.below hb, h.2⟩
theorem tl_lt {w W : World} {ab tx lv : Nat} {all : Bool} {B : Option Addr} {nB cB : Nat} {s : List Pr} {v : Value} (h : Tl w ab tx lv all B nB cB s v W) (o : Obj) (p : Pr) (ho : o = .cells #[.slice p.a p.key.length p.c, .int .i64 p.num] tP) : Bp W.heap.size p v (W.alloc o) ∧ W.heap.size ≠ lv := by
  subst ho
  refine ⟨⟨Cel.new W tP _ rfl, fun e => ?_⟩, fun e => ?_⟩
  · have := own_lt h.own W.heap.size (mem_blk.2 e); omega
  · have := h.lv_.lt; omega
set_option maxRecDepth 100000 in
set_option maxHeartbeats 4000000 in
theorem each_leaf (w : World) (ab tx lv : Nat) (all : Bool) (B : Option Addr) (nB cB : Nat) (tt : List UInt8) (p : Pr) (hto : Bs w B nB cB tt) (hp : KeyA w p) (m : Mt 1) (W : World) (s : List Pr) (v : Value) (h : Tl w ab tx lv all B nB cB s v W) (hr : Rep w 1 m) (hs : sz 1 m ≤ 8) (hS : Sorted (prs 1 m)) (hk : ∀ r ∈ prs 1 m, r.key.length ≤ 1000)
    (L : List Pr) (hL : hi p.k (prs 1 m) = L) (hl : s.length + L.length ≤ 100000) (q : Bool) (hq : L.all (goR all tt) = q) :
    Calls Try.prog 31 #[.pointer (some ⟨nb m, 0, none⟩), prv p, .func (.func 32) #[] #[.pointer (some ⟨ab, 0, none⟩), .pointer (some ⟨tx, 0, none⟩), .pointer (some ⟨lv, 0, none⟩)]] W (TellG w W ab tx lv all B nB cB s v (L.takeWhile (goR all tt)) q) := by
  rw [prs_zero] at hS hk hL
  have hB := al (Below.refl W.heap.size W) (.cells #[.slice p.a p.key.length p.c, .int .i64 p.num] tP)
  have hWB := Mem.on h.old hB
  obtain ⟨k, hk2⟩ : ∃ k, (lo p.k (nps m)).length = k := ⟨_, rfl⟩
  have HF := Lib.hid (find_any (nb m) (nvp m) (nvk m) (nps m) (nbs m) p _ (hr.node.below hWB) (hp.below hWB) hS (by have h8 : sz 1 m = (nps m).length + (nks m).length := sz_eq m; omega) k _ hk2 rfl)
  have HB := Lib.hid hB
  have HBX := Lib.hid (tl_lt h _ p rfl).1
  have HLV := Lib.hid (tl_lt h _ p rfl).2
  have HT := Lib.hid (h.below hB)
  have hn8 : (nps m).length ≤ 8 := by
    have h8 : sz 1 m = (nps m).length + (nks m).length := sz_eq m
    omega
  have HN := Lib.hid hr.node
  have HNB := Lib.hid (nbs_zero m)
  have HP := Lib.hid hp
  have HTO := Lib.hid hto
  have HK := Lib.hid hk
  have HSL := Lib.hid hl
  have hLd : (nps m).drop k = L := by rw [← hL, hi_drop, hk2]
  have hkl : k ≤ (nps m).length := by
    have := congrArg List.length (lo_hi p.k (nps m))
    rw [List.length_append] at this
    omega
  have HLD := Lib.hid hLd
  have HQ := Lib.hid hq
  obtain ⟨A, c, A', c', ev, _, ⟨y0, _⟩, _, ⟨hnc, hc1, _⟩, _⟩ := hr.node.open_
  obtain ⟨n, hn⟩ : ∃ n, (nps m).length = n := ⟨_, rfl⟩
  rw [hn] at ev y0 hnc hkl hn8
  obtain ⟨A2, hA2, hs1⟩ := slice_any elemP A n c k hkl hnc
  have HA2 := Lib.hid hA2
  obtain ⟨n', hn'⟩ : ∃ n', n - k = n' := ⟨_, rfl⟩
  obtain ⟨c', hc'⟩ : ∃ c', c - k = c' := ⟨_, rfl⟩
  rw [hn', hc'] at hs1
  have HN' := Lib.hid hn'
  have hn9 : n' ≤ 8 := by omega
  clear hc' hn'
  have HEV := Lib.hid ev
  have HNN := Lib.hid hn
  have hbl : nb m < w.heap.size := blk_lt hr.node.1
  have HY := Lib.hid (show ∀ W', Below w.heap.size w W' → W'.cell? ⟨nb m, 0, none⟩ = some (.slice A n c) from fun W' hW => (hW.cell (p := ⟨nb m, 0, none⟩) hbl).trans y0)
  clear h hr hs hS hl hk hL hq hp hto hB hWB hk2 hLd ev hA2 y0
  go_enter Try.func31, Try.ntmps31
  go_upto_region 2 with (go_at_call 38; (with_reducible refine HF.out.mono ?_); rintro e w1 ⟨rfl, hb1⟩; have HB1 := Lib.hid hb1; clear hb1)
  have HT1 := Lib.hid (HT.out.below HB1.out)
  have HBX1 := Lib.hid (HBX.out.below HB1.out)
  have HW1 := Lib.hid (Mem.on HB.out HB1.out)
  have y0 := HY.out w1 HT1.out.old
  clear HF HT HBX HB HB1
  go_wp2
  go_loopw [26] (fun i wr => ∃ k' s' v', k' ≤ n' ∧ i = .int .i64 ((k' : Nat) : Int) ∧ Hid (Tl w ab tx lv all B nB cB s' v' wr ∧ Til lv v v' W wr ∧ s'.map Pr.k = s.map Pr.k ++ (L.take k').map Pr.k ∧ (L.take k').all (goR all tt) = true) ∧ Hid (Bp W.heap.size p v' wr)) (fun i _ => n' - (intOf i).toNat)
  case atStart => exact ⟨0, s, v, Nat.zero_le _, rfl, Lib.hid ⟨HT1.out, Til.of HW1.out, by simp, rfl⟩, HBX1⟩
  case round =>
    obtain ⟨j, s', v', hj, rfl, HR, HBP⟩ := hrel
    obtain ⟨r1, r2, r3, r4⟩ := HR.out
    have hN' := HN'.out
    by_cases hlt : j < n'
    · obtain ⟨r, hr⟩ : ∃ r, L[j]? = some r := ⟨_, List.getElem?_eq_getElem (by rw [← HLD.out, List.length_drop, HNN.out, hN']; exact hlt)⟩
      have hr' : (nps m)[k + j]? = some r := by rw [← HLD.out, List.getElem?_drop] at hr; exact hr
      obtain ⟨g, c2, e2, hg, c0, c1, hkr⟩ := HN.out.pair hr'
      rw [HEV.out] at e2
      injection e2 with e2 e3 e4
      subst e2 e4
      have hA := HA2.out g rfl (by omega)
      subst hA
      have hgc : ∀ W', Below w.heap.size w W' → W'.cell? ⟨g, k * 2 + j * 2, none⟩ = some (.slice r.a r.key.length r.c) ∧ W'.cell? ⟨g, k * 2 + j * 2 + 1, none⟩ = some (.int .i64 r.num) := fun W' hW => by
        rw [show k * 2 + j * 2 = (k + j) * 2 by omega]
        exact ⟨(hW.cell (p := ⟨g, (k + j) * 2, none⟩) hg).trans c0, (hW.cell (p := ⟨g, (k + j) * 2 + 1, none⟩) hg).trans c1⟩
      obtain ⟨d0, d1⟩ := hgc wr r1.old
      have t1 : (j : Int) < (n' : Int) := by omega
      clear hN'
      obtain ⟨x, hx⟩ : ∃ x, goR all tt r = x := ⟨_, rfl⟩
      have hlen : s'.length ≤ 100000 := by
        have h1 := congrArg List.length r3
        rw [List.length_map, List.length_append, List.length_map, List.length_map, List.length_take] at h1
        have h2 := HSL.out
        omega
      have hal := al (Below.refl wr.heap.size wr) (.cells #[.slice r.a r.key.length r.c, .int .i64 r.num] tP)
      have HTE := Lib.hid (tell_any w (wr.alloc (.cells #[.slice r.a r.key.length r.c, .int .i64 r.num] tP)) ab tx lv all B nB cB tt s' v' r x (r1.below hal) HTO.out (hkr.a.below (Mem.on r1.old hal)) hkr.2.2 (HK.out r (List.mem_of_getElem? hr')) hlen hx)
      have HAL := Lib.hid hal
      have HX := Lib.hid hx
      have HRR := Lib.hid hr
      clear hr hr' hg c0 c1 hkr hgc r1 r2 r3 r4 hlen hal hx e3
      cases x with
      | true =>
        go_wp2_with (go_at_call 32; (with_reducible refine HTE.out.mono ?_); rintro e w3 ⟨rfl, s3, v3, k1, k2, k3⟩; have HS3 := Lib.hid (show _ ∧ _ ∧ _ from ⟨k1, k2, k3⟩); clear k1 k2 k3)
        go_roundw
        case rel =>
          obtain ⟨k1, k2, k3⟩ := HS3.out
          obtain ⟨r1, r2, r3, r4⟩ := HR.out
          exact ⟨j + 1, s3, v3, by omega, by go_num, Lib.hid ⟨k1, (r2.trans (Til.of HAL.out)).trans k2, by
            rw [k3, r3, List.take_add_one, HRR.out]; simp, all_take r4 HRR.out HX.out⟩, Lib.hid ((HBP.out.below HAL.out).til k2 HLV.out)⟩
        case measure => simp [intOf]; omega
      | false =>
        go_wp2_with (go_at_call 32; (with_reducible refine HTE.out.mono ?_); rintro e w3 ⟨rfl, s3, v3, k1, k2, k3⟩; have HS3 := Lib.hid (show _ ∧ _ ∧ _ from ⟨k1, k2, k3⟩); clear k1 k2 k3)
        go_ret
        obtain ⟨k1, k2, k3⟩ := HS3.out
        obtain ⟨r1, r2, r3, r4⟩ := HR.out
        obtain ⟨z1, z2⟩ := stop_at r4 HRR.out HX.out
        exact ⟨by rw [← HQ.out, z2]; rfl, s3, v3, k1, (r2.trans (Til.of HAL.out)).trans k2, by rw [k3, r3, z1]; simp⟩
    · have hjn : j = n' := by omega
      have hLl : L.length = n' := by rw [← HLD.out, List.length_drop, HNN.out, hN']
      have hLt : L.take j = L := List.take_of_length_le (by omega)
      rw [hLt] at r3 r4
      have hq : true = q := by rw [← HQ.out, r4]
      have HE := Lib.hid (all_end r4)
      have HR3 := Lib.hid r3
      have HQ2 := Lib.hid hq
      have hnw := HN.out.below r1.old
      obtain ⟨Ax, cx, Ay, cy, _, ey, ⟨_, z1⟩, _⟩ := hnw.open_
      rw [HNB.out, List.length_nil] at z1
      obtain ⟨A3, _, hs2⟩ := slice_any elemK Ay 0 cy 0 (Nat.le_refl _) (Nat.zero_le _)
      simp only [Nat.sub_zero, Int.ofNat_zero] at hs2
      have HWN := Lib.hid (show ∀ W', Below wr.heap.size wr W' → Calls Try.prog 48 #[.pointer (some ⟨nb m, 0, none⟩), prv p] W' fun e w' => e = .returned (.int .i64 0) ∧ Below wr.heap.size wr w' from fun W' hW => by
        have := hnw.below hW
        rw [HNB.out] at this
        exact (way_none (nb m) (nvp m) (nvk m) (nps m) p W' this).mono fun _ _ ⟨h1, h2⟩ => ⟨h1, Mem.on hW h2⟩)
      have HK := Lib.hid (show ∀ W', Below wr.heap.size wr W' → (W'.cell? ⟨W.heap.size, 0, none⟩ = some (.slice p.a p.key.length p.c) ∧ W'.cell? ⟨W.heap.size, 1, none⟩ = some (.int .i64 p.num)) ∧ W'.cell? ⟨nb m, 1, none⟩ = some (.slice Ay 0 cy) from fun W' hW => ⟨⟨(HBP.out.below hW).1.at_ 0, (HBP.out.below hW).1.at_ 1⟩, (hW.cell (p := ⟨nb m, 1, none⟩) (blk_lt hnw.1)).trans z1⟩)
      clear r1 r2 r3 r4 hq hnw ey hLt hLl hN' y0
      go_upto_region 8 with (fail)
      refine wp_region_quiet (C := fun w' => Below wr.heap.size wr w') (by kernel_rfl) (by kernel_rfl) (Below.refl _ _).drew ?_
      repeat (first | (refine BigFrame.wpQuiet_skip rfl ?_; simp only [Act.put, List.setIfInBounds_toArray, List.set_cons_zero, List.set_cons_succ]) | (refine BigFrame.wpQuiet_want rfl (fun K hK => ?_); refine quietC_val ?_; apply Exists.intro; refine ⟨fun W hW => ?_, hK _ ?_⟩; (focus (obtain ⟨⟨q0, q1⟩, q2⟩ := HK.out W hW; go_simp; first | done | rfl)); clear hK K; simp only [Act.put, List.setIfInBounds_toArray, List.set_cons_zero, List.set_cons_succ]) | (quiet_step ((intro hW; first | (go_at_call 48; exact HWN.out _ hW)))))
      refine wpQuiet_nil ?_
      intro W9 hw9
      have HW9 := Lib.hid hw9
      clear hw9
      go_wp2
      refine wp_loop_rounds 1 ?_
      rw [rounds_succ]
      go_wp2
      go_ret
      obtain ⟨r1, r2, r3, r4⟩ := HR.out
      exact ⟨by rw [HQ2.out]; rfl, s', v', r1.below HW9.out, r2.trans (Til.of HW9.out), by rw [HR3.out, HE.out]⟩
end Go.Proofs.Ytjlfacmmokfleaa.Bt
