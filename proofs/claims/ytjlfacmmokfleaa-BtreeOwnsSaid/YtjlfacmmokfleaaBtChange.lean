/- A leaf is changed, and each child on the way back is mended. -/
import Derived.Test.YtjlfacmmokfleaaBtMend
import Derived.Test.YtjlfacmmokfleaaBtWay
import Derived.StillTailTactics
import Derived.Deep.CutRange
namespace Go.Proofs.Ytjlfacmmokfleaa.Bt
open Go.RowKit Go.Proofs.Ytjlfacmmokfleaa.Mem Go.Proofs.Ytjlfacmmokfleaa.Right
set_option linter.unusedVariables false

theorem Step.base {n n' d d' : Nat} {m : Mt d} {m' : Mt d'} (h : Step n' d d' m m') (hn : n ≤ n') (ho : One d m) : Step n d d' m m' := ⟨fun y hy => h.1 y (by omega), fun y _ => h.one ho y⟩
abbrev tT : TypeId := 48
/-- What a deed has made of a node: its pairs are others, the tree's struct has another number. -/
structure Chg (W w' : World) (tb : Nat) (top : Value) (n : Int) {p : Kn} (D : Deed p) (x : Pr) {d : Nat} (m m' : Mt (d + 1)) : Prop where
  b : nb m' = nb m
  rep : Rep w' (d + 1) m'
  step : Step W.heap.size (d + 1) (d + 1) m m'
  fr : Fr (tb :: foot (d + 1) m) W w'
  prs : prs (d + 1) m' = D.go x (prs (d + 1) m)
  inn : Inn (d + 1) m'
  le : sz (d + 1) m' ≤ sz (d + 1) m + 1
  ge : sz (d + 1) m ≤ sz (d + 1) m' + 1
  tree : Cel w' tb tT #[top, .int .i64 (n + D.by_)]
def ChgG (w0 W : World) (tb : Nat) (top : Value) (n : Int) {p : Kn} (D : Deed p) {d : Nat} (m : Mt (d + 1)) (q : Bool) (e : Ending) (w' : World) : Prop :=
  e = .returned (.bool q) ∧ (q = false → Below W.heap.size W w') ∧ (q = true → ∃ x m', Chg W w' tb top n D x m m' ∧ x.k = p ∧ Fresh w0.heap.size x)
/-- What is asked of a deed done to a leaf. -/
def DoC (w0 : World) (tb : Nat) (top : Value) (n : Int) (F : FuncId) (c1 c2 : Value) {p : Kn} (D : Deed p) : Prop :=
  ∀ (W : World) (m : Mt 1) (q : Bool), Below w0.heap.size w0 W → Rep W 1 m → One 1 m → tb ∉ foot 1 m → (∀ y ∈ foot 1 m, y < w0.heap.size) → Cel W tb tT #[top, .int .i64 n] → Sorted (nps m) → (nps m).length ≤ 8 → D.yes (prs 1 m) = q →
    Calls Try.prog F #[.pointer (some ⟨nb m, 0, none⟩), c1, c2] W (ChgG w0 W tb top n D m q)
/-- The kid on the way has become another one. -/
theorem swap_kid {W w' : World} {tb : Nat} {top : Value} {n : Int} {p : Kn} {D : Deed p} {x : Pr} {d : Nat} {m : Mt (d + 2)} {K1 K2 : List (Mt (d + 1))} {k k' : Mt (d + 1)} (h : Rep W (d + 2) m) (ho : One (d + 2) m) (ht : tb ∉ foot (d + 2) m) (hks : nks m = K1 ++ k :: K2) (hc : Chg W w' tb top n D x k k') :
    Rep w' (d + 2) (mkN (nb m) (nvp m) (nvk m) (nps m) (K1 ++ k' :: K2)) ∧ Step W.heap.size (d + 2) (d + 2) m (mkN (nb m) (nvp m) (nvk m) (nps m) (K1 ++ k' :: K2)) ∧ (∀ y ∈ tb :: foot (d + 1) k, y = tb ∨ y ∈ foot (d + 2) m) := by
  have hcc : ∀ z, one (nb m) z + bc (nvp m) z + bc (nvk m) z + (cts K1 z + (ct (d + 1) k z + cts K2 z)) ≤ 1 := fun z => by
    have := ho z
    rw [ct_eq, hks, cts_app, cts_cons] at this
    exact this
  have hin : ∀ z, one (nb m) z + bc (nvp m) z + bc (nvk m) z + (cts K1 z + (ct (d + 1) k z + cts K2 z)) ≠ 0 → z ∈ foot (d + 2) m := fun z hz => by
    rw [ct_mem, ct_eq, hks, cts_app, cts_cons]; omega
  have hF : ∀ z ∈ tb :: foot (d + 1) k, one (nb m) z = 0 ∧ bc (nvp m) z = 0 ∧ bc (nvk m) z = 0 ∧ cts K1 z = 0 ∧ cts K2 z = 0 := fun z hz => by
    rcases List.mem_cons.1 hz with rfl | hz
    · have h0 : one (nb m) z + bc (nvp m) z + bc (nvk m) z + (cts K1 z + (ct (d + 1) k z + cts K2 z)) = 0 := Decidable.byContradiction fun e => ht (hin z e)
      omega
    · have h1 := hcc z
      have h2 := ct_mem.1 hz
      omega
  refine ⟨Rep.mk ?_ (fun j hj => ?_), ⟨fun z hz => ?_, fun z hz => ?_⟩, fun y hy => ?_⟩
  · have e : nbs (mkN (nb m) (nvp m) (nvk m) (nps m) (K1 ++ k' :: K2)) = nbs m := by
      unfold nbs
      rw [nks_mk, hks, List.map_append, List.map_append, List.map_cons, List.map_cons, bl_eq, bl_eq, hc.b]
    rw [e]
    refine h.node.fr hc.fr (fun hm => ?_) (fun z hz hm => ?_) (fun z hz hm => ?_)
    · have := (hF _ hm).1; rw [one_same] at this; omega
    · have := (hF _ hm).2.1; rw [bc_yes (mem_blk.1 hz)] at this; omega
    · have := (hF _ hm).2.2.1; rw [bc_yes (mem_blk.1 hz)] at this; omega
  · rw [nks_mk] at hj
    simp only [List.mem_append, List.mem_cons] at hj
    rcases hj with hj | rfl | hj
    · exact reps_fr (ks := K1) hc.fr (fun k hk => h.kids k (by rw [hks]; simp [hk])) (fun z hz => (hF z hz).2.2.2.1) j hj
    · exact hc.rep
    · exact reps_fr (ks := K2) hc.fr (fun k hk => h.kids k (by rw [hks]; simp [hk])) (fun z hz => (hF z hz).2.2.2.2) j hj
  · rw [ct_eq, ct_eq m, nks_mk, nb_mk, nvp_mk, nvk_mk, hks, cts_app, cts_cons, cts_app, cts_cons]
    have := hc.step.1 z hz
    omega
  · rw [ct_eq, nks_mk, nb_mk, nvp_mk, nvk_mk, cts_app, cts_cons]
    have h0 := h.far hz
    rw [ct_eq, hks, cts_app, cts_cons] at h0
    have := hc.step.2 z hz
    omega
  · rcases List.mem_cons.1 hy with hy | hy
    · exact .inl hy
    · right
      have := ct_mem.1 hy
      exact hin y (by omega)
theorem mend_after {W w3 : World} {tb : Nat} {top : Value} {n : Int} {p : Kn} {D : Deed p} {x : Pr} {d : Nat} {m : Mt (d + 2)} {K1 K2 : List (Mt (d + 1))} {k k' : Mt (d + 1)} (h : Rep W (d + 2) m) (ho : One (d + 2) m) (ht : tb ∉ foot (d + 2) m) (htb : tb < W.heap.size) (hks : nks m = K1 ++ k :: K2)
    (hi : Inn (d + 2) m) (hs2 : 2 ≤ sz (d + 2) m) (hs : sz (d + 2) m ≤ 8) (hc : Chg W w3 tb top n D x k k') (hA : ∀ a ∈ K1.flatMap (prs (d + 1)), ltb a.k p = true) (hC : ∀ c ∈ K2.flatMap (prs (d + 1)), ltb p c.k = true) (hy : D.yes (prs (d + 1) k) = true) :
    Calls Try.prog 61 #[.pointer (some ⟨nb m, 0, none⟩), .int .i64 (K1.length : Int)] w3 fun e w' => e = .returned (.tuple #[]) ∧ ∃ m', Chg W w' tb top n D x m m' := by
  obtain ⟨r1, r2, r3⟩ := swap_kid h ho ht hks hc
  have hps : nps m = [] := hi.1 (by omega)
  have hg : ∀ j ∈ nks m, Good (d + 1) j := hi.2
  have hk := hg k (by rw [hks]; simp)
  have hsz : sz (d + 2) m = (nks m).length := by rw [sz_eq, hps]; simp
  have hlen : (K1 ++ k' :: K2).length = (nks m).length := by rw [hks]; simp
  refine (mend_any (mkN (nb m) (nvp m) (nvk m) (nps m) (K1 ++ k' :: K2)) K1 K2 k' w3 r1 (r2.one ho) rfl (fun j hj => hg j (by rw [hks]; simp [hj])) (fun j hj => hg j (by rw [hks]; simp [hj])) hc.inn (by have := hc.ge; have := hk.2.1; omega) (by have := hc.le; have := hk.2.2; omega) (by rw [nks_mk, hlen]; omega) (by rw [nks_mk, hlen]; omega)).mono ?_
  rintro e w' ⟨rfl, m', hm⟩
  have hfr : Fr (tb :: foot (d + 2) m) W w3 := hc.fr.more (fun y hy => by rcases r3 y hy with e | e <;> simp [e])
  refine ⟨rfl, m', ⟨hm.b, hm.rep, r2.trans hm.step hfr.size, hfr.then_ hm.fr (fun y hy => ?_), ?_, ?_, ?_, ?_, ?_⟩⟩
  · rcases r2.sub y hy with e | e
    · exact .inl (by simp [e])
    · exact .inr e
  · rw [hm.prs, prs_eq, prs_eq m, nks_mk, nps_mk, hps, hks, List.flatMap_append, List.flatMap_cons, List.flatMap_append, List.flatMap_cons, hc.prs, List.nil_append, List.nil_append, ← List.append_assoc, ← List.append_assoc]
    exact (D.go_loc _ _ _ x hA hC hy).symm
  · rw [inn_eq]
    exact ⟨fun _ => hm.ps.trans (by rw [nps_mk]; exact hps), hm.good⟩
  · rw [sz_eq, hm.ps, nps_mk, hps, hsz]
    have := hm.len
    rw [nks_mk, hlen] at this
    simp; omega
  · rw [sz_eq (d := d + 1) m', hm.ps, nps_mk, hps, hsz]
    have := hm.len2
    rw [nks_mk, hlen] at this
    simp; omega
  · refine hm.fr.cel hc.tree (fun e => ?_)
    rcases r2.sub tb e with e | e
    · exact ht e
    · omega
set_option maxHeartbeats 4000000 in
theorem change_any (w0 : World) (tb : Nat) (top : Value) (n : Int) (F : FuncId) (c1 c2 : Value) (p : Pr) (D : Deed p.k) (hdo : DoC w0 tb top n F c1 c2 D) (hp : KeyA w0 p) (hF : ∀ (args : Array Value) (w : World), (callFunc F args).run Try.prog w = .ok (.enter F args) w) :
    ∀ (d : Nat) (m : Mt (d + 1)) (W : World) (q : Bool), Below w0.heap.size w0 W → Rep W (d + 1) m → One (d + 1) m → tb ∉ foot (d + 1) m → (∀ y ∈ foot (d + 1) m, y < w0.heap.size) → Cel W tb tT #[top, .int .i64 n] → Inn (d + 1) m → (d ≠ 0 → 2 ≤ sz (d + 1) m) → sz (d + 1) m ≤ 8 → Sorted (prs (d + 1) m) → D.yes (prs (d + 1) m) = q →
    Calls Try.prog 51 #[.pointer (some ⟨nb m, 0, none⟩), prv p, .func (.func F) #[] #[c1, c2]] W (ChgG w0 W tb top n D m q)
  | 0, m, W, q, hW, h, ho, ht, hold, hT, hi, _, hs, hS, hq => by
    have hB := al (Below.refl W.heap.size W) (.cells #[.slice p.a p.key.length p.c, .int .i64 p.num] tP)
    have HL := Lib.hid (leaf_any (nb m) (nvp m) (nvk m) (nps m) _ _ (Rep.below hB h).node true (by rw [nbs_zero m]; rfl))
    have HD := Lib.hid (hdo _ m q (Mem.on hW hB) (Rep.below hB h) ho ht hold (hT.below hB) (by rw [← prs_zero]; exact hS) (by have := sz_eq m; omega) hq)
    have HB := Lib.hid hB
    have HO := Lib.hid ho
    clear h ho ht hold hT hi hs hS hq hdo hB hp hW
    go_enter Try.func51, Try.ntmps51
    go_wp2_with first | (go_at_call 47; (with_reducible refine HL.out.mono ?_); rintro e w1 ⟨rfl, rfl⟩) | ((with_reducible refine HD.out.mono ?_); rintro e w2 ⟨rfl, h1, h2⟩; have H1 := Lib.hid h1; have H2 := Lib.hid h2; clear h1 h2)
    go_ret
    refine ⟨rfl, fun e => Mem.on HB.out (H1.out e), fun e => ?_⟩
    obtain ⟨x, m', hc, k1, k2⟩ := H2.out e
    exact ⟨x, m', ⟨hc.b, hc.rep, hc.step.base HB.out.size HO.out, (Fr.of HB.out).trans hc.fr, hc.prs, hc.inn, hc.le, hc.ge, hc.tree⟩, k1, k2⟩
  | d + 1, m, W, q, hW, h, ho, ht, hold, hT, hi, hs2, hs, hS, hq => by
    have hs3 : 2 ≤ sz (d + 2) m := hs2 (by omega)
    have hs4 : sz (d + 2) m ≤ 8 := hs
    have hB := al (Below.refl W.heap.size W) (.cells #[.slice p.a p.key.length p.c, .int .i64 p.num] tP)
    have hps : nps m = [] := hi.1 (by omega)
    have hsz : sz (d + 2) m = (nks m).length := by rw [sz_eq, hps]; simp
    have HL := Lib.hid (leaf_any (nb m) (nvp m) (nvk m) (nps m) _ _ (Rep.below hB h).node false (decide_eq_false (by rw [nbs_len]; omega)))
    have HWAY := Lib.hid (way_any d m p _ (Rep.below hB h) hi (by omega) (by omega) hS (hp.below (Mem.on hW hB)))
    have HBX := Lib.hid (Cel.new W tP #[.slice p.a p.key.length p.c, .int .i64 p.num] rfl)
    have HB := Lib.hid hB
    have HO := Lib.hid ho
    have H := Lib.hid h
    have HT := Lib.hid hT
    have HTN := Lib.hid ht
    have HOLD := Lib.hid hold
    have HI := Lib.hid hi
    have HS := Lib.hid hS
    have HQ := Lib.hid hq
    have HW := Lib.hid hW
    have HDO := Lib.hid hdo
    have HP := Lib.hid hp
    have HPS := Lib.hid hps
    clear h ho ht hold hT hi hs2 hS hq hB hp hW hps hdo hsz
    go_enter Try.func51, Try.ntmps51
    go_upto_region 4 with (first | (go_at_call 47; (with_reducible refine HL.out.mono ?_); rintro e w1 ⟨rfl, rfl⟩) | (go_at_call 48; (with_reducible refine HWAY.out.mono ?_); rintro e w2 ⟨i, rfl, hway, hil, hb2⟩; have HWY := Lib.hid hway; have HB2 := Lib.hid (Mem.on HB.out hb2); have HBX2 := Lib.hid (HBX.out.below hb2); clear hway hb2))
    obtain ⟨K1, k, K2, hks, rfl, hA, hC⟩ := HWY.out
    have h2 := Rep.below HB2.out H.out
    obtain ⟨g, nn, c, y1, cg, t1⟩ := kid_cells h2 (i := K1.length) (x := k) (by rw [hks]; exact at_mid K1 K2 k)
    have hkin : k ∈ nks m := by rw [hks]; simp
    have hkr := h2.kids k hkin
    have hkg := HI.out.2 k hkin
    have hprs : prs (d + 2) m = K1.flatMap (prs (d + 1)) ++ prs (d + 1) k ++ K2.flatMap (prs (d + 1)) := by
      rw [prs_eq, HPS.out, hks, List.nil_append, List.flatMap_append, List.flatMap_cons, List.append_assoc]
    have hyes : D.yes (prs (d + 1) k) = q := by
      rw [← HQ.out, hprs]
      exact (D.yes_loc _ _ _ hA hC).symm
    have hone : One (d + 1) k := fun y => by
      have := HO.out y
      rw [ct_eq, hks, cts_app, cts_cons] at this
      omega
    have hsub : ∀ y ∈ foot (d + 1) k, y ∈ foot (d + 2) m := fun y hy => by
      rw [ct_mem, ct_eq, hks, cts_app, cts_cons]
      have := ct_mem.1 hy
      omega
    have hSk : Sorted (prs (d + 1) k) := by
      have := HS.out
      rw [hprs] at this
      exact this.left.right
    have HIH := Lib.hid (change_any w0 tb top n F c1 c2 p D HDO.out HP.out hF d k w2.drew q (Mem.on (Mem.on HW.out HB2.out) (Below.refl _ _).drew) (Rep.below (Below.refl _ _).drew hkr) hone (fun e => HTN.out (hsub tb e)) (fun y hy => HOLD.out y (hsub y hy)) (HT.out.below (Mem.on HB2.out (Below.refl _ _).drew)) hkg.1 (fun _ => by have := hkg.2.1; omega) hkg.2.2 hSk hyes)
    have HYES := Lib.hid hyes
    have HKS := Lib.hid hks
    have HA := Lib.hid hA
    have HC := Lib.hid hC
    clear h2 hkr hkg hprs hyes hone hsub hSk hks hA hC hkin
    have p0 := HBX2.out.at_ 0
    have p1 := HBX2.out.at_ 1
    have p0 : w2.drew.cell? ⟨W.heap.size, 0, none⟩ = some (.slice p.a p.key.length p.c) := p0
    have p1 : w2.drew.cell? ⟨W.heap.size, 1, none⟩ = some (.int .i64 p.num) := p1
    have y1 : w2.drew.cell? ⟨nb m, 1, none⟩ = some (.slice (some ⟨g, 0, none⟩) nn c) := y1
    have cg : w2.drew.cell? ⟨g, K1.length, none⟩ = some (.pointer (some ⟨nb k, 0, none⟩)) := cg
    have HBD := Lib.hid (show Below W.heap.size W w2.drew from Mem.on HB2.out (Below.refl _ _).drew)
    refine wp_region_still_tail 9 (by kernel_rfl) (by kernel_rfl) ?_
    simp only [List.take_succ_cons, List.take_zero, List.drop_succ_cons, List.drop_zero]
    change wpStill _ _ w2.drew (fun a' => wpList _ _ _ _ a' w2.drew) _ _
    generalize w2.drew = w3 at p0 p1 y1 cg HBD HIH ⊢
    repeat still_step
    refine wpStill_nil ?_
    cases q with
    | false =>
      go_wp2_with (go_at_call 51; (with_reducible refine HIH.out.mono ?_); rintro e w4 ⟨rfl, h1, _⟩; have HB4 := Lib.hid (h1 rfl); clear h1)
      go_ret
      exact ⟨rfl, fun _ => Mem.on HBD.out HB4.out, fun e => by cases e⟩
    | true =>
      go_wp2_with first | (go_at_call 51; (with_reducible refine HIH.out.mono ?_); rintro e w4 ⟨rfl, _, h1⟩; obtain ⟨x, k', hc, e1, e2⟩ := h1 rfl; have HE1 := Lib.hid e1; have HE2 := Lib.hid e2; have HMD := Lib.hid (mend_after (Rep.below HBD.out H.out) HO.out HTN.out (Nat.lt_of_lt_of_le HT.out.lt HBD.out.size) HKS.out HI.out hs3 hs4 hc HA.out HC.out HYES.out); clear h1 hc e1 e2) | (go_at_call 61; (with_reducible refine HMD.out.mono ?_); rintro e w5 ⟨rfl, m', hm⟩; have HM := Lib.hid hm; clear hm)
      go_ret
      refine ⟨rfl, (fun e => by cases e), fun _ => ⟨x, m', ?_, HE1.out, HE2.out⟩⟩
      have hm := HM.out
      exact ⟨hm.b, hm.rep, hm.step.base HBD.out.size HO.out, (Fr.of HBD.out).trans hm.fr, hm.prs, hm.inn, hm.le, hm.ge, hm.tree⟩
end Go.Proofs.Ytjlfacmmokfleaa.Bt
