/- Check asks of each node whether it is sound. -/
import Derived.Test.YtjlfacmmokfleaaBtRise
import Derived.Test.YtjlfacmmokfleaaBtTells
namespace Go.Proofs.Ytjlfacmmokfleaa.Bt
open Go.RowKit Go.Proofs.Ytjlfacmmokfleaa.Mem Go.Proofs.Ytjlfacmmokfleaa.Right
set_option linter.unusedVariables false

/-- The last pair, behind these. -/
def lastP (last : Pr) (L : List Pr) : Pr := L.foldl (fun _ x => x) last
theorem lastP_app (last : Pr) (A B : List Pr) : lastP last (A ++ B) = lastP (lastP last A) B := List.foldl_append ..
theorem lastP_mem : ∀ (L : List Pr) (last : Pr), L ≠ [] → lastP last L ∈ L
  | [], _, h => absurd rfl h
  | [x], _, _ => by simp [lastP]
  | x :: y :: t, last, _ => List.mem_cons_of_mem _ (lastP_mem (y :: t) x (by simp))
/-- These rise, behind the last one. -/
def Up (c : Nat) (last : Pr) (L : List Pr) : Prop := Sorted L ∧ (0 < c → ∀ x ∈ L, ltb last.k x.k = true)
theorem Up.on {c : Nat} {last : Pr} {A B : List Pr} (h : Up c last (A ++ B)) : Up (c + A.length) (lastP last A) B := by
  refine ⟨h.1.right, fun h0 x hx => ?_⟩
  cases A with
  | nil => exact h.2 (by simpa using h0) x hx
  | cons a t => exact h.1.across _ (lastP_mem (a :: t) last (by simp)) x hx
theorem Up.left {c : Nat} {last : Pr} {A B : List Pr} (h : Up c last (A ++ B)) : Up c last A := ⟨h.1.left, fun h0 x hx => h.2 h0 x (by simp [hx])⟩
theorem take_on {α : Type} {L : List α} {i : Nat} {r : α} (h : L[i]? = some r) : L.take (i + 1) = L.take i ++ [r] := by
  rw [List.take_add_one, h]; rfl
theorem part_at {α : Type} {L : List α} {i : Nat} {r : α} (h : L[i]? = some r) : L = L.take i ++ (r :: L.drop (i + 1)) := by
  obtain ⟨h1, h2⟩ := List.getElem?_eq_some_iff.1 h
  conv => lhs; rw [← List.take_append_drop i L, List.drop_eq_getElem_cons h1, h2]
theorem leaf_in {d : Nat} (m : Mt (d + 1)) (q : Bool) (w W : World) (h : Rep w (d + 1) m) (hq : decide ((nbs m).length = 0) = q) (hW : Below w.heap.size w W) : Calls Try.prog 47 #[.pointer (some ⟨nb m, 0, none⟩)] W fun e w' => e = .returned (.bool q) ∧ Below w.heap.size w w' :=
  (leaf_any (nb m) (nvp m) (nvk m) (nps m) (nbs m) W (Rep.below hW h).node q hq).mono fun _ _ ⟨h1, h2⟩ => ⟨h1, by rw [h2]; exact hW⟩
theorem size_b {d : Nat} (m : Mt (d + 1)) (n : Nat) (w W : World) (h : Rep w (d + 1) m) (hn : sz (d + 1) m = n) (hs : n ≤ 1000000) (hW : Below w.heap.size w W) : Calls Try.prog 46 #[.pointer (some ⟨nb m, 0, none⟩)] W fun e w' => e = .returned (.int .i64 n) ∧ Below w.heap.size w w' :=
  (size_in m n w W h hn hs hW).mono fun _ _ ⟨h1, k, h2⟩ => ⟨h1, by rw [h2]; exact below_drewN hW k⟩
set_option maxHeartbeats 4000000 in
theorem sound_leaf (w : World) (nv lb : Nat) (m : Mt 1) (W : World) (c s : Nat) (last : Pr) (atL : Int) (h : Ck w nv lb c last W) (hr : Rep w 1 m) (hs : sz 1 m = s) (ha : atL ≤ (s : Int)) (h8 : s ≤ 8) (h88 : s ≤ 1000000) (hu : Up c last (prs 1 m)) (hl : c + (prs 1 m).length ≤ 1000000) :
    Calls Try.prog 27 #[.pointer (some ⟨nb m, 0, none⟩), .int .i64 atL, .int .i64 1, .func (.func 25) #[] #[.pointer (some ⟨nv, 0, none⟩), .pointer (some ⟨lb, 0, none⟩)]] W fun e w' => e = .returned (.bool true) ∧ Ck w nv lb (c + (prs 1 m).length) (lastP last (prs 1 m)) w' := by
  rw [prs_zero] at hu hl ⊢
  have HRW := Lib.hid (show Rep W 1 m from Rep.below h.old hr)
  have HSZ := Lib.hid (show ∀ W', Below W.heap.size W W' → Calls Try.prog 46 #[.pointer (some ⟨nb m, 0, none⟩)] W' fun e w' => e = .returned (.int .i64 s) ∧ Below W.heap.size W w' from fun W' hW => size_b m s W W' HRW.out hs h88 hW)
  have HLF := Lib.hid (show ∀ W', Below W.heap.size W W' → Calls Try.prog 47 #[.pointer (some ⟨nb m, 0, none⟩)] W' fun e w' => e = .returned (.bool true) ∧ Below W.heap.size W w' from fun W' hW => leaf_in m true W W' HRW.out (by rw [nbs_zero m]; rfl) hW)
  obtain ⟨A, cA, A', c', ev, _, ⟨y0, _⟩, _, ⟨hnc, hc1, _⟩, _⟩ := hr.node.open_
  obtain ⟨n, hn⟩ : ∃ n, (nps m).length = n := ⟨_, rfl⟩
  rw [hn] at ev y0 hnc
  have hbl : nb m < w.heap.size := blk_lt hr.node.1
  have HY := Lib.hid (show ∀ W', Below w.heap.size w W' → W'.cell? ⟨nb m, 0, none⟩ = some (.slice A n cA) from fun W' hW => (hW.cell (p := ⟨nb m, 0, none⟩) hbl).trans y0)
  have HK := Lib.hid (show ∀ W', Below W.heap.size W W' → True from fun W' hW => trivial)
  have t1 : decide ((s : Int) < atL) = false := decide_eq_false (by omega)
  have t2 : decide ((8 : Int) < (s : Int)) = false := decide_eq_false (by omega)
  have hn8 : n ≤ 8 := by
    have h9 : sz 1 m = (nps m).length + (nks m).length := sz_eq m
    omega
  have H := Lib.hid h
  have HR := Lib.hid hr
  have HU := Lib.hid hu
  have HL := Lib.hid hl
  have HN := Lib.hid hn
  have HEV := Lib.hid ev
  clear h hr hs ha hu hl hn y0 ev HRW
  go_enter Try.func27, Try.ntmps27
  have hb9 := Below.refl W.heap.size W
  go_upto_region 3 with first | (go_at_call 46; (refine (HSZ.out _ (by assumption)).mono ?_); rintro e W9 ⟨rfl, hb9⟩; have y9 := HK.out _ hb9) | (go_at_call 47; (refine (HLF.out _ (by assumption)).mono ?_); rintro e W9 ⟨rfl, hb9⟩; have y9 := HK.out _ hb9)
  have HW9 := Lib.hid hb9
  clear hb9
  have y0 := HY.out W9 (Mem.on H.out.old HW9.out)
  have H9 := Lib.hid (H.out.below HW9.out)
  clear H HSZ HLF HK HW9
  go_wp2
  go_loopw [47] (fun i wr => ∃ i', i' ≤ n ∧ i = .int .i64 ((i' : Nat) : Int) ∧ Hid (Ck w nv lb (c + i') (lastP last ((nps m).take i')) wr)) (fun i _ => n - (intOf i).toNat)
  case atStart => exact ⟨0, Nat.zero_le _, rfl, H9⟩
  case round =>
    obtain ⟨i, hin, rfl, HC⟩ := hrel
    by_cases hlt : i < n
    · obtain ⟨r, hr⟩ : ∃ r, (nps m)[i]? = some r := ⟨_, List.getElem?_eq_getElem (by rw [HN.out]; exact hlt)⟩
      obtain ⟨g, c2, e2, hg, c0, c1, hkr⟩ := HR.out.node.pair hr
      rw [HEV.out] at e2
      injection e2 with e2 e3 e4
      subst e2 e4
      have d0 : wr.cell? ⟨g, i * 2, none⟩ = some (.slice r.a r.key.length r.c) := (HC.out.old.cell (p := ⟨g, i * 2, none⟩) hg).trans c0
      have d1 : wr.cell? ⟨g, i * 2 + 1, none⟩ = some (.int .i64 r.num) := (HC.out.old.cell (p := ⟨g, i * 2 + 1, none⟩) hg).trans c1
      have t3 : (i : Int) < (n : Int) := by omega
      have hal := al (Below.refl wr.heap.size wr) (.cells #[.slice r.a r.key.length r.c, .int .i64 r.num] tP)
      have hup := HU.out
      rw [part_at hr] at hup
      have hup2 := hup.on
      rw [List.length_take_of_le (by rw [HN.out]; omega)] at hup2
      have HRI := Lib.hid (rise_any w (wr.alloc (.cells #[.slice r.a r.key.length r.c, .int .i64 r.num] tP)) nv lb (c + i) (lastP last ((nps m).take i)) r (HC.out.below hal) hkr.a (fun h0 => hup2.2 h0 r (by simp)) (by have := HL.out; rw [HN.out] at this; omega))
      have HRR := Lib.hid hr
      clear hr hg c0 c1 hkr hup hup2 hal e3
      go_wp2_with (go_at_call 25; (with_reducible refine HRI.out.mono ?_); rintro e w3 ⟨rfl, k1⟩; have HC3 := Lib.hid k1; clear k1)
      go_roundw
      case rel =>
        exact ⟨i + 1, by omega, by go_num, Lib.hid (by
          rw [take_on HRR.out, lastP_app, ← Nat.add_assoc]
          exact HC3.out)⟩
      case measure => simp [intOf]; omega
    · have hi9 : i = n := by omega
      subst hi9
      have hck := HC.out
      rw [List.take_of_length_le (by rw [HN.out]; omega)] at hck
      have HCK := Lib.hid hck
      have HNB := Lib.hid (nbs_zero m)
      have hnw := (Rep.below hck.old HR.out).node
      obtain ⟨Ax, cx, Ay, cy, _, ey, ⟨_, z1⟩, _⟩ := hnw.open_
      rw [HNB.out, List.length_nil] at z1
      clear hck hnw ey y0
      go_wp2
      refine wp_loop_rounds 1 ?_
      rw [rounds_succ]
      go_wp2
      go_ret
      exact ⟨rfl, by rw [HN.out]; exact HCK.out⟩
set_option maxRecDepth 100000 in
set_option maxHeartbeats 4000000 in
theorem sound_any (w : World) (nv lb : Nat) : ∀ (d : Nat) (m : Mt (d + 1)) (W : World) (c s : Nat) (last : Pr) (atL : Int) (dn : Nat), Ck w nv lb c last W → Rep w (d + 1) m → Inn (d + 1) m → (d ≠ 0 → 1 ≤ s) → sz (d + 1) m = s → atL ≤ (s : Int) → s ≤ 8 → Up c last (prs (d + 1) m) → c + (prs (d + 1) m).length ≤ 1000000 → dn = d + 1 → dn ≤ 1000000 →
    Calls Try.prog 27 #[.pointer (some ⟨nb m, 0, none⟩), .int .i64 atL, .int .i64 (dn : Int), .func (.func 25) #[] #[.pointer (some ⟨nv, 0, none⟩), .pointer (some ⟨lb, 0, none⟩)]] W fun e w' => e = .returned (.bool true) ∧ Ck w nv lb (c + (prs (d + 1) m).length) (lastP last (prs (d + 1) m)) w'
  | 0, m, W, c, s, last, atL, dn, h, hr, hi_, _, hs, ha, h8, hu, hl, hd, hdn => by
    subst hd
    exact sound_leaf w nv lb m W c s last atL h hr hs ha h8 (by omega) hu hl
  | d + 1, m, W, c, s, last, atL, dn, h, hr, hi_, hs0, hs, ha, h8, hu, hl, hd, hdn => by
    have hs1 : 1 ≤ s := hs0 (by omega)
    have hps : nps m = [] := hi_.1 (by omega)
    have hks : (nks m).length = s := by have h9 := sz_eq m; rw [hps] at h9; simp at h9; omega
    have hpf : prs (d + 2) m = (nks m).flatMap (prs (d + 1)) := by rw [prs_eq, hps]; rfl
    have hrw : Rep W (d + 2) m := Rep.below h.old hr
    have HSZ := Lib.hid (show ∀ W', Below W.heap.size W W' → Calls Try.prog 46 #[.pointer (some ⟨nb m, 0, none⟩)] W' fun e w' => e = .returned (.int .i64 s) ∧ Below W.heap.size W w' from fun W' hW => size_b m s W W' hrw hs (by omega) hW)
    have HLF := Lib.hid (show ∀ W', Below W.heap.size W W' → Calls Try.prog 47 #[.pointer (some ⟨nb m, 0, none⟩)] W' fun e w' => e = .returned (.bool false) ∧ Below W.heap.size W w' from fun W' hW => leaf_in m false W W' hrw (decide_eq_false (by rw [nbs_len]; omega)) hW)
    obtain ⟨Ap, cp, A, cA, evp, ev, ⟨y0, y1⟩, _, ⟨hpc1, hpc2, _⟩, ⟨hnc, hc1, _⟩⟩ := hr.node.open_
    rw [hps, List.length_nil] at y0
    rw [nbs_len, hks] at ev y1
    have hbl : nb m < w.heap.size := blk_lt hr.node.1
    have HY := Lib.hid (show ∀ W', Below w.heap.size w W' → W'.cell? ⟨nb m, 0, none⟩ = some (.slice Ap 0 cp) ∧ W'.cell? ⟨nb m, 1, none⟩ = some (.slice A s cA) from fun W' hW => ⟨(hW.cell (p := ⟨nb m, 0, none⟩) hbl).trans y0, (hW.cell (p := ⟨nb m, 1, none⟩) hbl).trans y1⟩)
    have HK := Lib.hid (show ∀ W', Below W.heap.size W W' → W'.cell? ⟨nb m, 0, none⟩ = some (.slice Ap 0 cp) from fun W' hW => (HY.out W' (Mem.on h.old hW)).1)
    have t1 : decide ((s : Int) < atL) = false := decide_eq_false (by omega)
    have t2 : decide ((8 : Int) < (s : Int)) = false := decide_eq_false (by omega)
    have t3 : ((dn : Int) == 1) = false := beq_no (by omega)
    have t4 : IntKind.i64.wrap ((dn : Int) - 1) = ((d + 1 : Nat) : Int) := by rw [IntKind.wrap_i64]; omega
    obtain ⟨dk, hdk⟩ : ∃ dk, d + 1 = dk := ⟨_, rfl⟩
    rw [hdk] at t4
    have HDK := Lib.hid hdk
    have hdk8 : dk ≤ 1000000 := by omega
    have H := Lib.hid h
    have HR := Lib.hid hr
    have HI := Lib.hid hi_
    have HU := Lib.hid hu
    have HL := Lib.hid hl
    have HN := Lib.hid hks
    have HEV := Lib.hid ev
    have HPF := Lib.hid hpf
    clear h hr hi_ hs0 hs ha hu hl hd hdn hps hks hpf hrw evp ev y0 y1 hpc1 hpc2 hnc hc1 hdk hbl
    go_enter Try.func27, Try.ntmps27
    have hb9 := Below.refl W.heap.size W
    go_upto_region 3 with first | (go_at_call 46; (refine (HSZ.out _ (by assumption)).mono ?_); rintro e W9 ⟨rfl, hb9⟩; have y9 := HK.out _ hb9) | (go_at_call 47; (refine (HLF.out _ (by assumption)).mono ?_); rintro e W9 ⟨rfl, hb9⟩; have y9 := HK.out _ hb9)
    have HW9 := Lib.hid hb9
    clear hb9
    obtain ⟨y0, y1⟩ := HY.out W9 (Mem.on H.out.old HW9.out)
    have H9 := Lib.hid (H.out.below HW9.out)
    clear H HSZ HLF HK HW9
    go_wp2
    refine wp_loop_rounds 1 ?_
    rw [rounds_succ]
    go_wp2
    go_loopw [61] (fun i wr => ∃ i', i' ≤ s ∧ i = .int .i64 ((i' : Nat) : Int) ∧ Hid (Ck w nv lb (c + (((nks m).take i').flatMap (prs (d + 1))).length) (lastP last (((nks m).take i').flatMap (prs (d + 1)))) wr)) (fun i _ => s - (intOf i).toNat)
    case atStart => exact ⟨0, Nat.zero_le _, rfl, H9⟩
    case round =>
      obtain ⟨i, hin, rfl, HC⟩ := hrel
      by_cases hlt : i < s
      · obtain ⟨x, hx⟩ : ∃ x, (nks m)[i]? = some x := ⟨_, List.getElem?_eq_getElem (by rw [HN.out]; exact hlt)⟩
        have hxin : x ∈ nks m := List.mem_of_getElem? hx
        obtain ⟨g, c2, e2, _, hcells⟩ := kid_at HR.out hx
        rw [HEV.out] at e2
        injection e2 with e2 e3 e4
        subst e2 e4
        obtain ⟨_, d0⟩ := hcells wr HC.out.old
        have t5 : (i : Int) < (s : Int) := by omega
        have hxi := HI.out.2 x hxin
        have hfp := flat_part (f := prs (d + 1)) hx
        have hup := HU.out
        rw [HPF.out, hfp, List.append_assoc] at hup
        have hup2 := hup.on.left
        have hlen := HL.out
        rw [HPF.out, hfp, List.length_append, List.length_append] at hlen
        have HIH := Lib.hid (sound_any w nv lb d x wr _ (sz (d + 1) x) _ 4 dk HC.out (HR.out.kids x hxin) hxi.1 (fun _ => by have := hxi.2.1; omega) rfl (by have := hxi.2.1; omega) hxi.2.2 hup2 (by omega) HDK.out.symm hdk8)
        have HXX := Lib.hid hx
        clear hx hxin hcells hxi hfp hup hup2 hlen e3
        go_wp2_with (go_at_call 27; (with_reducible refine HIH.out.mono ?_); rintro e w3 ⟨rfl, k1⟩; have HC3 := Lib.hid k1; clear k1)
        go_roundw
        case rel =>
          exact ⟨i + 1, by omega, by go_num, Lib.hid (by
            rw [take_flat HXX.out, lastP_app, List.length_append, ← Nat.add_assoc]
            exact HC3.out)⟩
        case measure => simp [intOf]; omega
      · have hi9 : i = s := by omega
        subst hi9
        have hck := HC.out
        rw [List.take_of_length_le (by rw [HN.out]; omega), ← HPF.out] at hck
        have HCK := Lib.hid hck
        clear hck
        go_wp2
        go_ret
        exact ⟨rfl, HCK.out⟩
end Go.Proofs.Ytjlfacmmokfleaa.Bt
