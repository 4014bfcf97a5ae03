import Derived.Test.YtlkmhdbmcfblkaaGreatDoorRights
import Derived.Lib.MinMax
import Derived.Test.YtlkmhdbmcfblkaaGreatDoorRsOnes
import Derived.Test.YtlkmhdbmcfblkaaGreatDoorExTakes
/- How high a tree is: the program's way, which hands its parts to a function, and the document's. -/
namespace Go.Proofs.YtlkmhdbmcfblkaaGreatDoor.Ep
open Go.RowKit Go.Proofs.YtlkmhdbmcfblkaaGreatDoor.Mem Go.Proofs.YtlkmhdbmcfblkaaGreatDoor.Right
set_option linter.unusedVariables false

/-! ### The document's -/
set_option maxHeartbeats 4000000 in
theorem refHeight_any : ∀ (e : Ex) (cs : List Value) (w : World), ExAt w w.heap.size e cs → size e ≤ 1000000 →
    Calls Tryz.prog 25 #[.agg cs.toArray] w fun x w' => x = .returned (.int .i64 (hgt e : Int)) ∧ Below w.heap.size w w' := by
  refine Ex.byKids fun k o vk vn vs nm kids ih cs w h hs => ?_
  obtain ⟨A, kn, c, rfl, hkn, -, -, -, hk⟩ := ex_open h
  rw [size] at hs
  rw [hgt_mk]
  have HB0 := Lib.hid (al (Below.refl w.heap.size w) (.cells #[.int .i64 k, .int .i64 o, .int .i64 vk, .int .i64 vn, .string (txt vs), .string (txt nm), .slice A kn c] 32))
  have HK := Lib.hid hk
  have HN := Lib.hid hkn
  have HSZ := Lib.hid hs
  have hkm : kn ≤ 1000000 := by have := sizeL_len kids; omega
  clear hk h hkn hs
  go_enter Tryz.func25, Tryz.ntmps25
  go_wp2
  go_loopw [4, 3] (fun i l wr => ∃ (j m : Nat), j ≤ kn ∧ m ≤ 1000000 ∧ i = .int .i64 (j : Int) ∧ l = .int .i64 (m : Int) ∧ Hid (m = hgtL (kids.take j)) ∧ Hid (Below (w.alloc (.cells #[.int .i64 k, .int .i64 o, .int .i64 vk, .int .i64 vn, .string (txt vs), .string (txt nm), .slice A kn c] 32)).heap.size (w.alloc (.cells #[.int .i64 k, .int .i64 o, .int .i64 vk, .int .i64 vn, .string (txt vs), .string (txt nm), .slice A kn c] 32)) wr)) (fun i _ _ => kn + 1 - (intOf i).toNat)
  case atStart => exact ⟨0, 0, Nat.zero_le _, by omega, rfl, rfl, Lib.hid (by rw [List.take_zero, hgtL]), Lib.hid (Below.refl _ _)⟩
  case round =>
    obtain ⟨j, m, hj, hm, rfl, rfl, HL, HB⟩ := hrel
    have HBw := Lib.hid (HB0.out.trans (HB.out.mono HB0.out.size))
    have d6 := HB.out.cell (p := ⟨w.heap.size, 6, none⟩) (by simp)
    by_cases hlt : j < kn
    · obtain ⟨x, hx⟩ := kid_some (l := kids) (j := j) (by have := HN.out; omega)
      obtain ⟨k', o', vk', vn', vs', nm', ks', A', n', c', b, p, e, rfl, hb, hn', c0, c1, c2, c3, c4, c5, c6, hin⟩ := kid_at HK.out hx
      have hsx : size x ≤ sizeL kids := sizeL_mem (kid_mem hx)
      obtain ⟨g, hg⟩ : ∃ g, hgt x = g := ⟨_, rfl⟩
      have hg6 : g ≤ 1000000 := by have := hgt_size x; have := HSZ.out; omega
      have HI : ∀ W, Below w.heap.size w W → Calls Tryz.prog 25 #[exV k' o' vk' vn' (txt vs') (txt nm') A' n' c'] W fun x' w' => x' = .returned (.int .i64 (g : Int)) ∧ Below W.heap.size W w' := fun W hW => by
        rw [← hg]
        exact ih x (kid_mem hx) _ W (ExAt.on hin hW) (by have := HSZ.out; omega)
      have HI := Lib.hid HI
      have HT := Lib.hid (show hgtL (kids.take (j + 1)) = max m g by rw [List.take_add_one, hx, HL.out, ← hg]; exact hgtL_snoc _ _)
      have c0 := (HBw.out.cell hb).trans c0
      have c1 := (HBw.out.cell hb).trans c1
      have c2 := (HBw.out.cell hb).trans c2
      have c3 := (HBw.out.cell hb).trans c3
      have c4 := (HBw.out.cell hb).trans c4
      have c5 := (HBw.out.cell hb).trans c5
      have c6 := (HBw.out.cell hb).trans c6
      have tl : decide ((j : Int) < (kn : Int)) = true := decide_eq_true (by omega)
      clear hin hn' e hx hg hsx
      by_cases hgm : m < g
      · have tg : decide ((m : Int) < (g : Int)) = true := decide_eq_true (by omega)
        go_wp2_with (go_at_call 25; (with_reducible refine (HI.out _ HBw.out).mono ?_); rintro e' w2 ⟨rfl, hb2⟩; have HB2 := Lib.hid hb2; clear hb2)
        go_roundw
        case rel => exact ⟨j + 1, g, by omega, by omega, by go_num, rfl, Lib.hid (by rw [HT.out]; omega), Lib.hid (HB.out.trans (HB2.out.mono HB.out.size))⟩
        case measure => simp [intOf]; omega
      · have tg : decide ((m : Int) < (g : Int)) = false := decide_eq_false (by omega)
        go_wp2_with (go_at_call 25; (with_reducible refine (HI.out _ HBw.out).mono ?_); rintro e' w2 ⟨rfl, hb2⟩; have HB2 := Lib.hid hb2; clear hb2)
        go_roundw
        case rel => exact ⟨j + 1, m, by omega, by omega, by go_num, rfl, Lib.hid (by rw [HT.out]; omega), Lib.hid (HB.out.trans (HB2.out.mono HB.out.size))⟩
        case measure => simp [intOf]; omega
    · have tl : decide ((j : Int) < (kn : Int)) = false := decide_eq_false (by omega)
      have hd : kids.take j = kids := List.take_of_length_le (by have := HN.out; omega)
      rw [hd] at HL
      go_wp2
      go_ret
      exact ⟨ri (by rw [← HL.out]; omega), HBw.out⟩
end Go.Proofs.YtlkmhdbmcfblkaaGreatDoor.Ep
/- The document's parser by each of the grammar's lines, whatever the bound; what Take answers. -/
namespace Go.Proofs.YtlkmhdbmcfblkaaGreatDoor.Ep
open Go.RowKit Go.Proofs.YtlkmhdbmcfblkaaGreatDoor.Mem Go.Proofs.YtlkmhdbmcfblkaaGreatDoor.Right Go.Proofs.YtlkmhdbmcfblkaaGreatDoor.Lx Go.Deep
set_option linter.unusedVariables false

/-- What a call gives goes out by the result's cell. -/
theorem gives_on {w W0 w1 : World} {B q : Nat} {tk : Value} {e : Int} {R : Res Ex} {x : Ex} {k o vk vn : Int} {vs nm : ByteArray} {A1 : Option Addr} {m1 c1 : Nat} (hB : B < w.heap.size) (hO : Oth B w W0) (hs : W0.heap.size = w.heap.size + 1) (hx : ExIn w1 (fun b => W0.heap.size ≤ b ∧ b < w1.heap.size) x [.int .i64 k, .int .i64 o, .int .i64 vk, .int .i64 vn, .string vs, .string nm, .slice A1 m1 c1]) (hz : Rz w1 B tk q e) (hg : GotR R x q e) (ho : Oth B W0 w1) :
    Gives w B tk R (.returned (.agg #[.int .i64 k, .int .i64 o, .int .i64 vk, .int .i64 vn, .string vs, .string nm, .slice A1 m1 c1])) (put7 w1 w.heap.size 0 (.int .i64 k) (.int .i64 o) (.int .i64 vk) (.int .i64 vn) (.string vs) (.string nm) (.slice A1 m1 c1)) :=
  gives_put hB (hx.more fun b hb => ⟨by omega, hb.2⟩) hz hg (hO.trans ho)
set_option maxRecDepth 100000 in
theorem rankR_4 {B n c N : Nat} {A : Option Addr} {L : List To} (hcall : ReadsR 41 #[pV B] B A n c L (fun p => isP (Ts L) N p)) : ReadsR 24 #[pV B, .int .i64 4] B A n c L (fun p => rankP (Ts L) (N + 1) 4 p) := by
  intro w p h hE hp h99
  have hR : rankP (Ts L) (N + 1) 4 p = isP (Ts L) N p := by rw [rankP, if_neg (by decide), if_pos rfl]
  show Calls Tryz.prog 24 #[pV B, .int .i64 4] w (Gives w B (.slice A n c) (rankP (Ts L) (N + 1) 4 p))
  simp only [hR] at h99 ⊢
  obtain ⟨W0, hW0⟩ : ∃ W0, w.alloc (.cells zC.toArray tE) = W0 := ⟨_, rfl⟩
  have hb0 : Below w.heap.size w W0 := hW0 ▸ al (Below.refl _ _) _
  have hB := h.lt
  have hO0 := Oth.of hb0 (Nat.le_of_lt hB)
  have hz0 := h.below hb0
  have hc0 : Cel W0 w.heap.size tE zC.toArray := hW0 ▸ Cel.new w _ _ rfl
  have hs0 : W0.heap.size = w.heap.size + 1 := by rw [← hW0]; simp
  have r2 := hz0.at_ 2
  have HO0 := Lib.hid hO0
  have HC0 := Lib.hid hc0
  have HS0 := Lib.hid hs0
  have HB := Lib.hid hB
  have H0 := Lib.hid (hcall.got hz0 (hE.oth hO0) hp rfl h99)
  clear h hE hcall hp h99 hb0 hO0 hz0 hc0 hs0 hB hR
  go_enter Tryz.func24, Tryz.ntmps24
  go_wp2_with (go_at_call 41; (refine H0.out.mono ?_); rintro e' w1 ⟨x, k, o, vk, vn, vs, nm, A1, m1, c1, q, e, rfl, hx, hz, hg, ho⟩; have hc2 := ho.cel (by have := HB.out; omega) HC0.out; have b0 := hc2.at_ 0; have b1 := hc2.at_ 1; have b2 := hc2.at_ 2; have b3 := hc2.at_ 3; have b4 := hc2.at_ 4; have b5 := hc2.at_ 5; have b6 := hc2.at_ 6; have f4 := fun i => hc2.open_ i; have H1 := Lib.hid (And.intro hx (And.intro hz (And.intro hg ho))); clear hx hz hg ho hc2)
  (try simp only [Exit.inBlock, Exit.then])
  refine bodyPost_ret (v := .agg #[.int .i64 k, .int .i64 o, .int .i64 vk, .int .i64 vn, .string vs, .string nm, .slice A1 m1 c1]) ?_ rfl ?_
  · simp only [results, Tryz.f24]
    go_simp
  exact gives_on HB.out HO0.out HS0.out H1.out.1 H1.out.2.1 H1.out.2.2.1 H1.out.2.2.2
set_option maxRecDepth 100000 in
theorem rankR_8 {B n c N : Nat} {A : Option Addr} {L : List To} (hcall : ReadsR 42 #[pV B] B A n c L (fun p => oneP (Ts L) N p)) : ReadsR 24 #[pV B, .int .i64 8] B A n c L (fun p => rankP (Ts L) (N + 1) 8 p) := by
  intro w p h hE hp h99
  have hR : rankP (Ts L) (N + 1) 8 p = oneP (Ts L) N p := by rw [rankP, if_neg (by decide), if_neg (by decide), if_neg (by decide), if_pos rfl]
  show Calls Tryz.prog 24 #[pV B, .int .i64 8] w (Gives w B (.slice A n c) (rankP (Ts L) (N + 1) 8 p))
  simp only [hR] at h99 ⊢
  obtain ⟨W0, hW0⟩ : ∃ W0, w.alloc (.cells zC.toArray tE) = W0 := ⟨_, rfl⟩
  have hb0 : Below w.heap.size w W0 := hW0 ▸ al (Below.refl _ _) _
  have hB := h.lt
  have hO0 := Oth.of hb0 (Nat.le_of_lt hB)
  have hz0 := h.below hb0
  have hc0 : Cel W0 w.heap.size tE zC.toArray := hW0 ▸ Cel.new w _ _ rfl
  have hs0 : W0.heap.size = w.heap.size + 1 := by rw [← hW0]; simp
  have r2 := hz0.at_ 2
  have HO0 := Lib.hid hO0
  have HC0 := Lib.hid hc0
  have HS0 := Lib.hid hs0
  have HB := Lib.hid hB
  have H0 := Lib.hid (hcall.got hz0 (hE.oth hO0) hp rfl h99)
  clear h hE hcall hp h99 hb0 hO0 hz0 hc0 hs0 hB hR
  go_enter Tryz.func24, Tryz.ntmps24
  go_wp2_with (go_at_call 42; (refine H0.out.mono ?_); rintro e' w1 ⟨x, k, o, vk, vn, vs, nm, A1, m1, c1, q, e, rfl, hx, hz, hg, ho⟩; have hc2 := ho.cel (by have := HB.out; omega) HC0.out; have b0 := hc2.at_ 0; have b1 := hc2.at_ 1; have b2 := hc2.at_ 2; have b3 := hc2.at_ 3; have b4 := hc2.at_ 4; have b5 := hc2.at_ 5; have b6 := hc2.at_ 6; have f4 := fun i => hc2.open_ i; have H1 := Lib.hid (And.intro hx (And.intro hz (And.intro hg ho))); clear hx hz hg ho hc2)
  (try simp only [Exit.inBlock, Exit.then])
  refine bodyPost_ret (v := .agg #[.int .i64 k, .int .i64 o, .int .i64 vk, .int .i64 vn, .string vs, .string nm, .slice A1 m1 c1]) ?_ rfl ?_
  · simp only [results, Tryz.f24]
    go_simp
  exact gives_on HB.out HO0.out HS0.out H1.out.1 H1.out.2.1 H1.out.2.2.1 H1.out.2.2.2
set_option maxRecDepth 100000 in
set_option maxHeartbeats 1000000 in
theorem rankR_3 {B n c N : Nat} {A : Option Addr} {L : List To} (hme : ReadsR 24 #[pV B, .int .i64 3] B A n c L (fun p => rankP (Ts L) N 3 p)) (hnx : ReadsR 24 #[pV B, .int .i64 4] B A n c L (fun p => rankP (Ts L) N 4 p)) (hL : Rts L) (hn : n = L.length) : ReadsR 24 #[pV B, .int .i64 3] B A n c L (fun p => rankP (Ts L) (N + 1) 3 p) := by
  intro w p h hE hp h99
  obtain ⟨R, hR⟩ : ∃ R, rankP (Ts L) (N + 1) 3 p = R := ⟨_, rfl⟩
  replace h99 : ∀ q, R ≠ .err 99 q := fun q => by rw [← hR]; exact h99 q
  show Calls Tryz.prog 24 #[pV B, .int .i64 3] w (Gives w B (.slice A n c) (rankP (Ts L) (N + 1) 3 p))
  rw [hR]
  rw [rankP, if_pos rfl] at hR
  obtain ⟨W0, hW0⟩ : ∃ W0, w.alloc (.cells zC.toArray tE) = W0 := ⟨_, rfl⟩
  have hb0 : Below w.heap.size w W0 := hW0 ▸ al (Below.refl _ _) _
  have hB := h.lt
  have hO0 := Oth.of hb0 (Nat.le_of_lt hB)
  have hz0 := h.below hb0
  have hc0 : Cel W0 w.heap.size tE zC.toArray := hW0 ▸ Cel.new w _ _ rfl
  have hs0 : W0.heap.size = w.heap.size + 1 := by rw [← hW0]; simp
  have r2 := hz0.at_ 2
  have HO0 := Lib.hid hO0
  have HC0 := Lib.hid hc0
  have HS0 := Lib.hid hs0
  have HB := Lib.hid hB
  cases ht : isT (Ts L) p kNOT with
  | true =>
    rw [ht, if_pos rfl] at hR
    have h99' := no99_bind (fun q' => by rw [hR]; exact h99 q')
    have hp1 : p + 1 < L.length := by have := hL.2.2.isT (by rw [Ts_len]; exact hp) ht; rwa [Ts_len] at this
    have HH := Lib.hid (show Calls Tryz.prog 40 #[pV B, .string ⟨#[78, 79, 84]⟩] W0 fun r w' => r = .returned (.bool true) ∧ Rz w' B (.slice A n c) (p + 1) 0 ∧ Oth B W0 w' from have_is hz0 (hE.oth hO0) hL hn hp rfl (k := kNOT) ht)
    have HK := Lib.hid (show ∀ W, Rz W B (.slice A n c) (p + 1) 0 → Oth B W0 W → Calls Tryz.prog 24 #[pV B, .int .i64 3] W (Gives W B (.slice A n c) (rankP (Ts L) N 3 (p + 1))) from fun W hW hb => hme.got hW ((hE.oth hO0).oth hb) hp1 rfl h99')
    have HR := Lib.hid hR
    clear h hE hme hnx hp h99 h99' hb0 hO0 hz0 hc0 hs0 hB hR ht hp1 hL hn
    go_enter Tryz.func24, Tryz.ntmps24
    go_wp2_with (first
      | (go_at_call 40; (refine HH.out.mono ?_); rintro e' w1 ⟨rfl, hz, ho⟩; have H1 := Lib.hid hz; have H2 := Lib.hid ho; clear hz ho)
      | (go_at_call 24; (refine (HK.out _ H1.out H2.out).mono ?_); rintro e' w2 ⟨x, k, o, vk, vn, vs, nm, A1, m1, c1, q, e, rfl, hx, hz, hg, ho⟩; have hs2 := H2.out.size; have hc2 := ((H2.out.trans ho).cel (by have := HB.out; omega) HC0.out).below (al (Below.refl w2.heap.size w2) (.cells #[.int .i64 k, .int .i64 o, .int .i64 vk, .int .i64 vn, .string vs, .string nm, .slice A1 m1 c1] tE)); have b0 := hc2.at_ 0; have b1 := hc2.at_ 1; have b2 := hc2.at_ 2; have b3 := hc2.at_ 3; have b4 := hc2.at_ 4; have b5 := hc2.at_ 5; have b6 := hc2.at_ 6; have f4 := fun i => hc2.open_ i; have H3 := Lib.hid (And.intro hx (And.intro hz (And.intro hg ho))); clear hx hz hg ho hc2 hs2))
    (try simp only [Exit.inBlock, Exit.then])
    refine bodyPost_ret (v := .agg #[.int .i64 4, .int .i64 2, .int .i64 0, .int .i64 0, .string ⟨#[]⟩, .string ⟨#[]⟩, .slice (some ⟨w2.heap.size, 0, none⟩) 1 1]) ?_ rfl ?_
    · simp only [results, Tryz.f24]
      go_simp
    obtain ⟨hx, hz, hg, ho⟩ := H3.out
    have hs0 := HS0.out
    have hs1 := H2.out.size
    have hs2 := ho.size
    exact gives_one HB.out (by omega) (hx.more fun b hb => ⟨by omega, hb.2⟩) hz 2 (by rw [← HR.out]; exact hg.map _) (HO0.out.trans (H2.out.trans ho))
  | false =>
    rw [ht, if_neg (by decide)] at hR
    have HH := Lib.hid (show Calls Tryz.prog 40 #[pV B, .string ⟨#[78, 79, 84]⟩] W0 fun r w' => r = .returned (.bool false) ∧ Rz w' B (.slice A n c) p 0 ∧ Oth B W0 w' from have_not hz0 (hE.oth hO0) hL hn hp (k := kNOT) (.inr ht))
    have HK := Lib.hid (show ∀ W, Rz W B (.slice A n c) p 0 → Oth B W0 W → Calls Tryz.prog 24 #[pV B, .int .i64 4] W (Gives W B (.slice A n c) R) from fun W hW hb => hnx.got hW ((hE.oth hO0).oth hb) hp hR h99)
    clear h hE hme hnx hp h99 hb0 hO0 hz0 hc0 hs0 hB hR ht hL hn
    go_enter Tryz.func24, Tryz.ntmps24
    go_wp2_with (first
      | (go_at_call 40; (refine HH.out.mono ?_); rintro e' w1 ⟨rfl, hz, ho⟩; have H1 := Lib.hid hz; have H2 := Lib.hid ho; clear hz ho)
      | (go_at_call 24; (refine (HK.out _ H1.out H2.out).mono ?_); rintro e' w2 ⟨x, k, o, vk, vn, vs, nm, A1, m1, c1, q, e, rfl, hx, hz, hg, ho⟩; have hs2 := H2.out.size; have hc2 := (H2.out.trans ho).cel (by have := HB.out; omega) HC0.out; have b0 := hc2.at_ 0; have b1 := hc2.at_ 1; have b2 := hc2.at_ 2; have b3 := hc2.at_ 3; have b4 := hc2.at_ 4; have b5 := hc2.at_ 5; have b6 := hc2.at_ 6; have f4 := fun i => hc2.open_ i; have H3 := Lib.hid (And.intro (hx.more fun b (hb : _ ∧ _) => (And.intro (Nat.le_trans hs2 hb.1) hb.2 : W0.heap.size ≤ b ∧ b < w2.heap.size)) (And.intro hz (And.intro hg ho))); clear hx hz hg ho hc2 hs2))
    (try simp only [Exit.inBlock, Exit.then])
    refine bodyPost_ret (v := .agg #[.int .i64 k, .int .i64 o, .int .i64 vk, .int .i64 vn, .string vs, .string nm, .slice A1 m1 c1]) ?_ rfl ?_
    · simp only [results, Tryz.f24]
      go_simp
    obtain ⟨hx, hz, hg, ho⟩ := H3.out
    exact gives_on HB.out HO0.out HS0.out hx hz hg (H2.out.trans ho)
set_option maxRecDepth 100000 in
set_option maxHeartbeats 1000000 in
theorem rankR_7 {B n c N : Nat} {A : Option Addr} {L : List To} (hme : ReadsR 24 #[pV B, .int .i64 7] B A n c L (fun p => rankP (Ts L) N 7 p)) (hnx : ReadsR 24 #[pV B, .int .i64 8] B A n c L (fun p => rankP (Ts L) N 8 p)) (hL : Rts L) (hn : n = L.length) : ReadsR 24 #[pV B, .int .i64 7] B A n c L (fun p => rankP (Ts L) (N + 1) 7 p) := by
  intro w p h hE hp h99
  obtain ⟨R, hR⟩ : ∃ R, rankP (Ts L) (N + 1) 7 p = R := ⟨_, rfl⟩
  replace h99 : ∀ q, R ≠ .err 99 q := fun q => by rw [← hR]; exact h99 q
  show Calls Tryz.prog 24 #[pV B, .int .i64 7] w (Gives w B (.slice A n c) (rankP (Ts L) (N + 1) 7 p))
  rw [hR]
  rw [rankP, if_neg (by decide), if_neg (by decide), if_pos rfl] at hR
  obtain ⟨W0, hW0⟩ : ∃ W0, w.alloc (.cells zC.toArray tE) = W0 := ⟨_, rfl⟩
  have hb0 : Below w.heap.size w W0 := hW0 ▸ al (Below.refl _ _) _
  have hB := h.lt
  have hO0 := Oth.of hb0 (Nat.le_of_lt hB)
  have hz0 := h.below hb0
  have hc0 : Cel W0 w.heap.size tE zC.toArray := hW0 ▸ Cel.new w _ _ rfl
  have hs0 : W0.heap.size = w.heap.size + 1 := by rw [← hW0]; simp
  have r2 := hz0.at_ 2
  have HO0 := Lib.hid hO0
  have HC0 := Lib.hid hc0
  have HS0 := Lib.hid hs0
  have HB := Lib.hid hB
  cases ht : isT (Ts L) p [45] with
  | true =>
    rw [ht, if_pos rfl] at hR
    have h99' := no99_bind (fun q' => by rw [hR]; exact h99 q')
    have hp1 : p + 1 < L.length := by have := hL.2.2.isT (by rw [Ts_len]; exact hp) ht; rwa [Ts_len] at this
    have HH := Lib.hid (show Calls Tryz.prog 40 #[pV B, .string ⟨#[45]⟩] W0 fun r w' => r = .returned (.bool true) ∧ Rz w' B (.slice A n c) (p + 1) 0 ∧ Oth B W0 w' from have_is hz0 (hE.oth hO0) hL hn hp rfl (k := [45]) ht)
    have HK := Lib.hid (show ∀ W, Rz W B (.slice A n c) (p + 1) 0 → Oth B W0 W → Calls Tryz.prog 24 #[pV B, .int .i64 7] W (Gives W B (.slice A n c) (rankP (Ts L) N 7 (p + 1))) from fun W hW hb => hme.got hW ((hE.oth hO0).oth hb) hp1 rfl h99')
    have HR := Lib.hid hR
    clear h hE hme hnx hp h99 h99' hb0 hO0 hz0 hc0 hs0 hB hR ht hp1 hL hn
    go_enter Tryz.func24, Tryz.ntmps24
    go_wp2_with (first
      | (go_at_call 40; (refine HH.out.mono ?_); rintro e' w1 ⟨rfl, hz, ho⟩; have H1 := Lib.hid hz; have H2 := Lib.hid ho; clear hz ho)
      | (go_at_call 24; (refine (HK.out _ H1.out H2.out).mono ?_); rintro e' w2 ⟨x, k, o, vk, vn, vs, nm, A1, m1, c1, q, e, rfl, hx, hz, hg, ho⟩; have hs2 := H2.out.size; have hc2 := ((H2.out.trans ho).cel (by have := HB.out; omega) HC0.out).below (al (Below.refl w2.heap.size w2) (.cells #[.int .i64 k, .int .i64 o, .int .i64 vk, .int .i64 vn, .string vs, .string nm, .slice A1 m1 c1] tE)); have b0 := hc2.at_ 0; have b1 := hc2.at_ 1; have b2 := hc2.at_ 2; have b3 := hc2.at_ 3; have b4 := hc2.at_ 4; have b5 := hc2.at_ 5; have b6 := hc2.at_ 6; have f4 := fun i => hc2.open_ i; have H3 := Lib.hid (And.intro hx (And.intro hz (And.intro hg ho))); clear hx hz hg ho hc2 hs2))
    (try simp only [Exit.inBlock, Exit.then])
    refine bodyPost_ret (v := .agg #[.int .i64 4, .int .i64 1, .int .i64 0, .int .i64 0, .string ⟨#[]⟩, .string ⟨#[]⟩, .slice (some ⟨w2.heap.size, 0, none⟩) 1 1]) ?_ rfl ?_
    · simp only [results, Tryz.f24]
      go_simp
    obtain ⟨hx, hz, hg, ho⟩ := H3.out
    have hs0 := HS0.out
    have hs1 := H2.out.size
    have hs2 := ho.size
    exact gives_one HB.out (by omega) (hx.more fun b hb => ⟨by omega, hb.2⟩) hz 1 (by rw [← HR.out]; exact hg.map _) (HO0.out.trans (H2.out.trans ho))
  | false =>
    rw [ht, if_neg (by decide)] at hR
    have HH := Lib.hid (show Calls Tryz.prog 40 #[pV B, .string ⟨#[45]⟩] W0 fun r w' => r = .returned (.bool false) ∧ Rz w' B (.slice A n c) p 0 ∧ Oth B W0 w' from have_not hz0 (hE.oth hO0) hL hn hp (k := [45]) (.inr ht))
    have HK := Lib.hid (show ∀ W, Rz W B (.slice A n c) p 0 → Oth B W0 W → Calls Tryz.prog 24 #[pV B, .int .i64 8] W (Gives W B (.slice A n c) R) from fun W hW hb => hnx.got hW ((hE.oth hO0).oth hb) hp hR h99)
    clear h hE hme hnx hp h99 hb0 hO0 hz0 hc0 hs0 hB hR ht hL hn
    go_enter Tryz.func24, Tryz.ntmps24
    go_wp2_with (first
      | (go_at_call 40; (refine HH.out.mono ?_); rintro e' w1 ⟨rfl, hz, ho⟩; have H1 := Lib.hid hz; have H2 := Lib.hid ho; clear hz ho)
      | (go_at_call 24; (refine (HK.out _ H1.out H2.out).mono ?_); rintro e' w2 ⟨x, k, o, vk, vn, vs, nm, A1, m1, c1, q, e, rfl, hx, hz, hg, ho⟩; have hs2 := H2.out.size; have hc2 := (H2.out.trans ho).cel (by have := HB.out; omega) HC0.out; have b0 := hc2.at_ 0; have b1 := hc2.at_ 1; have b2 := hc2.at_ 2; have b3 := hc2.at_ 3; have b4 := hc2.at_ 4; have b5 := hc2.at_ 5; have b6 := hc2.at_ 6; have f4 := fun i => hc2.open_ i; have H3 := Lib.hid (And.intro (hx.more fun b (hb : _ ∧ _) => (And.intro (Nat.le_trans hs2 hb.1) hb.2 : W0.heap.size ≤ b ∧ b < w2.heap.size)) (And.intro hz (And.intro hg ho))); clear hx hz hg ho hc2 hs2))
    (try simp only [Exit.inBlock, Exit.then])
    refine bodyPost_ret (v := .agg #[.int .i64 k, .int .i64 o, .int .i64 vk, .int .i64 vn, .string vs, .string nm, .slice A1 m1 c1]) ?_ rfl ?_
    · simp only [results, Tryz.f24]
      go_simp
    obtain ⟨hx, hz, hg, ho⟩ := H3.out
    exact gives_on HB.out HO0.out HS0.out hx hz hg (H2.out.trans ho)
/-! ### All of them, whatever the bound -/
structure AllR (B : Nat) (A : Option Addr) (n c : Nat) (L : List To) (N : Nat) : Prop where
  r1 : ReadsR 24 #[pV B, .int .i64 1] B A n c L (fun p => rankP (Ts L) N 1 p)
  r2 : ReadsR 24 #[pV B, .int .i64 2] B A n c L (fun p => rankP (Ts L) N 2 p)
  r3 : ReadsR 24 #[pV B, .int .i64 3] B A n c L (fun p => rankP (Ts L) N 3 p)
  r4 : ReadsR 24 #[pV B, .int .i64 4] B A n c L (fun p => rankP (Ts L) N 4 p)
  r5 : ReadsR 24 #[pV B, .int .i64 5] B A n c L (fun p => rankP (Ts L) N 5 p)
  r6 : ReadsR 24 #[pV B, .int .i64 6] B A n c L (fun p => rankP (Ts L) N 6 p)
  r7 : ReadsR 24 #[pV B, .int .i64 7] B A n c L (fun p => rankP (Ts L) N 7 p)
  r8 : ReadsR 24 #[pV B, .int .i64 8] B A n c L (fun p => rankP (Ts L) N 8 p)
  is : ReadsR 41 #[pV B] B A n c L (fun p => isP (Ts L) N p)
  one : ReadsR 42 #[pV B] B A n c L (fun p => oneP (Ts L) N p)
  list : ∀ most, 1 ≤ most → most ≤ 8 → ReadsRL 62 B A n c L most (fun p => listP (Ts L) N most p)
theorem allR {B n c : Nat} {A : Option Addr} {L : List To} (hL : Rts L) (hn : n = L.length) : ∀ N m, m ≤ N → AllR B A n c L m
  | 0, m, hm => by
    obtain rfl : m = 0 := by omega
    refine ⟨?_, ?_, ?_, ?_, ?_, ?_, ?_, ?_, ?_, ?_, fun most _ _ => ?_⟩
    all_goals
      intro w p h hE hp h99
      first
        | exact absurd (show rankP (Ts L) 0 _ p = _ by rw [rankP]) (h99 p)
        | exact absurd (show isP (Ts L) 0 p = _ by rw [isP]) (h99 p)
        | exact absurd (show oneP (Ts L) 0 p = _ by rw [oneP]) (h99 p)
        | exact absurd (show listP (Ts L) 0 most p = _ by rw [listP]) (h99 p)
  | N + 1, m, hm => by
    have ih := allR (B := B) (c := c) (A := A) hL hn N
    rcases Nat.lt_or_ge m (N + 1) with h | h
    · exact ih m (by omega)
    obtain rfl : m = N + 1 := by omega
    have hN := ih N (Nat.le_refl _)
    exact ⟨rankR_1 (fun m hm => (ih m hm).r2) hL hn, rankR_2 (fun m hm => (ih m hm).r3) hL hn, rankR_3 hN.r3 hN.r4 hL hn, rankR_4 hN.is, rankR_5 (fun m hm => (ih m hm).r6) hL hn, rankR_6 (fun m hm => (ih m hm).r7) hL hn, rankR_7 hN.r7 hN.r8 hL hn, rankR_8 hN.one,
      isR_step hN.r5 (hN.list 8 (by decide) (by decide)) hL hn, oneR_step hN.r1 (fun most h => by rcases h with rfl | rfl <;> exact hN.list _ (by decide) (by decide)) hL hn, fun most h1 h2 => listR_step (fun m hm => (ih m hm).r1) hL hn most h1 h2⟩
end Go.Proofs.YtlkmhdbmcfblkaaGreatDoor.Ep
/- What the document's Take answers, of any tokens. -/
namespace Go.Proofs.YtlkmhdbmcfblkaaGreatDoor.Ep
open Go.RowKit Go.Proofs.YtlkmhdbmcfblkaaGreatDoor.Mem Go.Proofs.YtlkmhdbmcfblkaaGreatDoor.Right Go.Proofs.YtlkmhdbmcfblkaaGreatDoor.Lx Go.Deep
set_option linter.unusedVariables false

theorem takeR_not {L : List To} {R : Res Ex} (h : toksOk L = false) : takeR L R = (exZ, 0, 2) := by unfold takeR; rw [if_pos h]
theorem takeR_err {L : List To} {c : Int} {q : Nat} (h : toksOk L = true) : takeR L (.err c q) = (exZ, q, c) := by unfold takeR; rw [if_neg (by simp [h])]
theorem takeR_ok {L : List To} {x : Ex} {q : Nat} (h : toksOk L = true) : takeR L (.ok x q) = if high x = true then (exZ, 0, 17) else (x, q, 0) := by unfold takeR; rw [if_neg (by simp [h])]
/-- The result's cell is written last, and goes out. -/
theorem takeL_put {w a : World} {x : Ex} {q : Nat} {e : Int} {V : Ex × Nat × Int} {k o vk vn : Int} {vs nm : ByteArray} {A1 : Option Addr} {m1 c1 : Nat} (hx : ExIn a (fun b => w.heap.size < b ∧ b < a.heap.size) x [.int .i64 k, .int .i64 o, .int .i64 vk, .int .i64 vn, .string vs, .string nm, .slice A1 m1 c1]) (hV : V = (x, q, e)) (hb : Below w.heap.size w a) :
    TakeL w V (.returned (.tuple #[.agg #[.int .i64 k, .int .i64 o, .int .i64 vk, .int .i64 vn, .string vs, .string nm, .slice A1 m1 c1], .int .i64 (q : Int), .int .i64 e])) (put7 a w.heap.size 0 (.int .i64 k) (.int .i64 o) (.int .i64 vk) (.int .i64 vn) (.string vs) (.string nm) (.slice A1 m1 c1)) := by
  subst hV
  exact ⟨_, rfl, ExIn.to (fun b hb => ⟨Nat.le_of_lt hb.1, by rw [put7_size]; exact hb.2⟩) (fun p hp => World.cell?_of_block (put7_oth (by have := hp.1; omega))) _ _ hx, put7_below hb (Nat.le_refl _)⟩
theorem TakeL.drew {w a : World} {V : Ex × Nat × Int} {e : Ending} (h : TakeL w V e a) : TakeL w V e a.drew := by
  obtain ⟨cs, h1, h2, h3⟩ := h
  exact ⟨cs, h1, ExIn.to (w := a) (w' := a.drew) (fun _ h => h) (fun _ _ => rfl) _ _ h2, h3.drew⟩
set_option maxRecDepth 100000 in
set_option maxHeartbeats 2000000 in
theorem refTake_any {w : World} {A : Option Addr} {n c N : Nat} {L : List To} (ht : ToksIn w (fun b => b < w.heap.size) A L) (hn : n = L.length) (hm : n ≤ 1000) (hx : ∀ x ∈ L, x.text.length ≤ 1000000) {R : Res Ex} (hR : rankP (Ts L) N 1 0 = R) (h99 : ∀ q, R ≠ .err 99 q) :
    Calls Tryz.prog 8 #[.slice A n c] w (TakeL w (takeR L R)) := by
  obtain ⟨W0, hW0⟩ : ∃ W0, w.alloc (.cells zC.toArray tE) = W0 := ⟨_, rfl⟩
  have hb0 : Below w.heap.size w W0 := hW0 ▸ al (Below.refl _ _) _
  have hc0 : Cel W0 w.heap.size tE zC.toArray := hW0 ▸ Cel.new w _ _ rfl
  have hs0 : W0.heap.size = w.heap.size + 1 := by rw [← hW0]; simp
  have ht0 : ToksIn W0 (fun b => b < W0.heap.size) A L := fun j x hx => by
    obtain ⟨b, o, h1, h2, h3, h4, h5⟩ := ht j x hx
    exact ⟨b, o, h1, by omega, (hb0.cell (p := ⟨b, o + j * 3, none⟩) h2).trans h3, (hb0.cell (p := ⟨b, o + j * 3 + 1, none⟩) h2).trans h4, (hb0.cell (p := ⟨b, o + j * 3 + 2, none⟩) h2).trans h5⟩
  have HRI := Lib.hid (right11_any (c := c) ht0 hn (by omega) hx)
  have HB0 := Lib.hid hb0
  have HC0 := Lib.hid hc0
  have HS0 := Lib.hid hs0
  cases hok : toksOk L with
  | false =>
    rw [takeR_not hok]
    rw [hok] at HRI
    clear ht hn hx hR h99 hb0 hc0 hs0 ht0 hok
    go_enter Tryz.func8, Tryz.ntmps8
    go_wp2_with (go_at_call 23; (refine HRI.out.mono ?_); rintro e' w1 ⟨rfl, hb⟩; have hc2 := HC0.out.below hb; have b0 := hc2.at_ 0; have b1 := hc2.at_ 1; have b2 := hc2.at_ 2; have b3 := hc2.at_ 3; have b4 := hc2.at_ 4; have b5 := hc2.at_ 5; have b6 := hc2.at_ 6; have f4 := fun i => hc2.open_ i; have H1 := Lib.hid (Mem.on HB0.out hb); clear hb hc2)
    (try simp only [Exit.inBlock, Exit.then])
    refine bodyPost_ret (v := .tuple #[.agg #[.int .i64 0, .int .i64 0, .int .i64 0, .int .i64 0, .string ⟨#[]⟩, .string ⟨#[]⟩, .slice none 0 0], .int .i64 0, .int .i64 2]) ?_ rfl ?_
    · simp only [results, Tryz.f8]
      go_simp
    exact takeL_put (zC_in _ _) rfl H1.out
  | true =>
  rw [hok] at HRI
  have hL := rts_of hok (by omega) hx
  have hl0 : 0 < L.length := (toksOk_iff.1 hok).1
  have hin := (inner hL.2.2 N).rank 1 0 (by rw [Ts_len]; exact hl0)
  rw [hR] at hin
  have HANY := Lib.hid (show ∀ W, Below w.heap.size w W → w.heap.size < W.heap.size → Calls Tryz.prog 24 #[.pointer (some ⟨W.heap.size, 0, none⟩), .int .i64 1] (W.alloc (.cells #[.slice A n c, .int .i64 0, .int .i64 0] tSt)) (Gives (W.alloc (.cells #[.slice A n c, .int .i64 0, .int .i64 0] tSt)) W.heap.size (.slice A n c) R) from fun W hW hlt => by
    refine ((allR (B := W.heap.size) (c := c) (A := A) hL hn N N (Nat.le_refl _)).r1).got (Cel.new W tSt _ rfl) (fun j x hx => ?_) hl0 hR h99
    obtain ⟨b, o, h1, h2, h3, h4, h5⟩ := ht j x hx
    have hb := al hW (.cells #[.slice A n c, .int .i64 0, .int .i64 0] tSt)
    exact ⟨b, o, h1, by omega, (hb.cell (p := ⟨b, o + j * 3, none⟩) h2).trans h3, (hb.cell (p := ⟨b, o + j * 3 + 1, none⟩) h2).trans h4, (hb.cell (p := ⟨b, o + j * 3 + 2, none⟩) h2).trans h5⟩)
  have hsz : ∀ x q, R = .ok x q → size x ≤ 1000000 := fun x q e => by
    rw [e] at hin
    have h1 := hin.1
    have h2 := hin.2
    rw [Ts_len] at h2
    omega
  cases R with
  | err e q =>
    rw [takeR_err hok]
    clear ht hn hx hR h99 hb0 hc0 hs0 ht0 hok hL hl0 hin hsz
    go_enter Tryz.func8, Tryz.ntmps8
    go_wp2_with (first
      | (go_at_call 23; (refine HRI.out.mono ?_); rintro e' w1 ⟨rfl, hb⟩; have H1 := Lib.hid (Mem.on HB0.out hb); have H2 := Lib.hid (HC0.out.below hb); have hlt1 : w.heap.size < w1.heap.size := (by have := HS0.out; have := hb.size; omega); have H3 := Lib.hid hlt1; have hn1 : ¬ w.heap.size = w1.heap.size := (by omega); have hn2 : ¬ w1.heap.size = w.heap.size := (by omega); clear hb hlt1)
      | (go_at_call 24; go_loud ((refine (HANY.out _ H1.out H3.out).mono ?_); rintro e' w2 ⟨x, k, o, vk, vn, vs, nm, A1, m1, c1, q', e1, rfl, hx, hz, hg, ho⟩; obtain ⟨rfl, rfl, hnz⟩ := hg; have te : (e1 != 0) = true := bne_yes hnz; have hb3 := al (Below.refl w2.heap.size w2) (.cells #[.int .i64 k, .int .i64 o, .int .i64 vk, .int .i64 vn, .string vs, .string nm, .slice A1 m1 c1] tE); obtain ⟨W3, hW3⟩ : ∃ W3, w2.alloc (.cells #[.int .i64 k, .int .i64 o, .int .i64 vk, .int .i64 vn, .string vs, .string nm, .slice A1 m1 c1] tE) = W3 := ⟨_, rfl⟩; rw [hW3] at hb3; have hc2 := ((ho.cel (by have := H3.out; omega) (H2.out.alloc _)).below hb3); have hz3 := hz.below hb3; have p1 := hz3.at_ 1; have p2 := hz3.at_ 2; have b0 := hc2.at_ 0; have b1 := hc2.at_ 1; have b2 := hc2.at_ 2; have b3 := hc2.at_ 3; have b4 := hc2.at_ 4; have b5 := hc2.at_ 5; have b6 := hc2.at_ 6; have f4 := fun i => hc2.open_ i; have H4 := Lib.hid (show Below w.heap.size w W3 from (((al H1.out _).trans (ho.1.mono (by have := H3.out; omega))).trans (hb3.mono (by have := Rz.lt hz; have := H3.out; omega)))); clear hx hz ho hb3 hc2 hz3 hnz)))
    go_region
    go_wp2
    (try simp only [Exit.inBlock, Exit.then])
    refine bodyPost_ret (v := .tuple #[.agg #[.int .i64 0, .int .i64 0, .int .i64 0, .int .i64 0, .string ⟨#[]⟩, .string ⟨#[]⟩, .slice none 0 0], .int .i64 (q' : Int), .int .i64 e1]) ?_ rfl ?_
    · simp only [results, Tryz.f8]
      go_simp
    exact (takeL_put (zC_in _ _) rfl H4.out).drew
  | ok x q =>
  have hsx := hsz x q rfl
  obtain ⟨hg8, hgt8⟩ : ∃ h : Nat, hgt x = h := ⟨_, rfl⟩
  have HHT := Lib.hid (show ∀ (W : World) (cs : List Value), ExAt W W.heap.size x cs → Calls Tryz.prog 25 #[.agg cs.toArray] W fun e w' => e = .returned (.int .i64 (hg8 : Int)) ∧ Below W.heap.size W w' from fun W cs h => hgt8 ▸ refHeight_any x cs W h hsx)
  rw [takeR_ok hok]
  have hhi : high x = decide (8 < hg8) := by unfold high; rw [hgt8]
  rw [hhi]
  clear ht hn hx hR h99 hb0 hc0 hs0 ht0 hok hL hl0 hin hsz hsx hgt8 hhi
  by_cases h8 : 8 < hg8
  · rw [if_pos (decide_eq_true h8)]
    have t8 : decide (8 < (hg8 : Int)) = true := decide_eq_true (by omega)
    clear h8
    go_enter Tryz.func8, Tryz.ntmps8
    go_wp2_with (first
      | (go_at_call 23; (refine HRI.out.mono ?_); rintro e' w1 ⟨rfl, hb⟩; have H1 := Lib.hid (Mem.on HB0.out hb); have H2 := Lib.hid (HC0.out.below hb); have hlt1 : w.heap.size < w1.heap.size := (by have := HS0.out; have := hb.size; omega); have H3 := Lib.hid hlt1; have hn1 : ¬ w.heap.size = w1.heap.size := (by omega); have hn2 : ¬ w1.heap.size = w.heap.size := (by omega); clear hb hlt1)
      | (go_at_call 24; (refine (HANY.out _ H1.out H3.out).mono ?_); rintro e' w2 ⟨x', k, o, vk, vn, vs, nm, A1, m1, c1, q', e1, rfl, hx, hz, hg, ho⟩; obtain ⟨rfl, rfl, rfl⟩ := hg; have hlt2 := Rz.lt hz; have hb3 := al (Below.refl w2.heap.size w2) (.cells #[.int .i64 k, .int .i64 o, .int .i64 vk, .int .i64 vn, .string vs, .string nm, .slice A1 m1 c1] tE); obtain ⟨W3, hW3⟩ : ∃ W3, w2.alloc (.cells #[.int .i64 k, .int .i64 o, .int .i64 vk, .int .i64 vn, .string vs, .string nm, .slice A1 m1 c1] tE) = W3 := ⟨_, rfl⟩; rw [hW3] at hb3; have hc2 := ((ho.cel (by have := H3.out; omega) (H2.out.alloc _)).below hb3); have hz3 := hz.below hb3; have hd6 : Cel W3 w2.heap.size tE #[.int .i64 k, .int .i64 o, .int .i64 vk, .int .i64 vn, .string vs, .string nm, .slice A1 m1 c1] := hW3 ▸ Cel.new w2 _ _ rfl; have p2 := hz3.at_ 2; have d0 := hd6.at_ 0; have d1 := hd6.at_ 1; have d2 := hd6.at_ 2; have d3 := hd6.at_ 3; have d4 := hd6.at_ 4; have d5 := hd6.at_ 5; have d6 := hd6.at_ 6; have H4 := Lib.hid (show Below w.heap.size w W3 from (((al H1.out _).trans (ho.1.mono (by have := H3.out; omega))).trans (hb3.mono (by have := H3.out; omega)))); have H5 := Lib.hid (And.intro hc2 (And.intro hz3 hd6)); have HX3 := Lib.hid (show ExIn W3 (fun b => w.heap.size < b ∧ b < W3.heap.size) x' [.int .i64 k, .int .i64 o, .int .i64 vk, .int .i64 vn, .string vs, .string nm, .slice A1 m1 c1] from ExIn.to (fun b hb => ⟨by have := H3.out; have := (al (Below.refl w1.heap.size w1) (.cells #[.slice A n c, .int .i64 0, .int .i64 0] tSt)).size; omega, Nat.lt_of_lt_of_le hb.2 hb3.size⟩) (fun p hp => hb3.cell (p := p) hp.2) _ _ hx); clear hx hz ho hb3 hc2 hz3 hd6 hlt2)
      | (go_at_call 25; (refine (HHT.out _ _ (HX3.out.more fun b hb => hb.2)).mono ?_); rintro e' w4 ⟨rfl, hb⟩; have hc2 := H5.out.1.below hb; have hz3 := H5.out.2.1.below hb; have hd6 := H5.out.2.2.below hb; have p1 := hz3.at_ 1; have b0 := hc2.at_ 0; have b1 := hc2.at_ 1; have b2 := hc2.at_ 2; have b3 := hc2.at_ 3; have b4 := hc2.at_ 4; have b5 := hc2.at_ 5; have b6 := hc2.at_ 6; have f4 := fun i => hc2.open_ i; have d0 := hd6.at_ 0; have d1 := hd6.at_ 1; have d2 := hd6.at_ 2; have d3 := hd6.at_ 3; have d4 := hd6.at_ 4; have d5 := hd6.at_ 5; have d6 := hd6.at_ 6; have H6 := Lib.hid (Mem.on H4.out hb); have H7 := Lib.hid (show ExIn w4 (fun b => w.heap.size < b ∧ b < w4.heap.size) x' [.int .i64 k, .int .i64 o, .int .i64 vk, .int .i64 vn, .string vs, .string nm, .slice A1 m1 c1] from ExIn.to (fun b hb' => ⟨hb'.1, Nat.lt_of_lt_of_le hb'.2 hb.size⟩) (fun p hp => hb.cell (p := p) hp.2) _ _ HX3.out); clear hb hc2 hz3 hd6))
    (try simp only [Exit.inBlock, Exit.then])
    refine bodyPost_ret (v := .tuple #[.agg #[.int .i64 0, .int .i64 0, .int .i64 0, .int .i64 0, .string ⟨#[]⟩, .string ⟨#[]⟩, .slice none 0 0], .int .i64 0, .int .i64 17]) ?_ rfl ?_
    · simp only [results, Tryz.f8]
      go_simp
    exact takeL_put (zC_in _ _) rfl H6.out
  · rw [if_neg (by rw [decide_eq_true_eq]; exact h8)]
    have t8 : decide (8 < (hg8 : Int)) = false := decide_eq_false (by omega)
    clear h8
    go_enter Tryz.func8, Tryz.ntmps8
    go_wp2_with (first
      | (go_at_call 23; (refine HRI.out.mono ?_); rintro e' w1 ⟨rfl, hb⟩; have H1 := Lib.hid (Mem.on HB0.out hb); have H2 := Lib.hid (HC0.out.below hb); have hlt1 : w.heap.size < w1.heap.size := (by have := HS0.out; have := hb.size; omega); have H3 := Lib.hid hlt1; have hn1 : ¬ w.heap.size = w1.heap.size := (by omega); have hn2 : ¬ w1.heap.size = w.heap.size := (by omega); clear hb hlt1)
      | (go_at_call 24; (refine (HANY.out _ H1.out H3.out).mono ?_); rintro e' w2 ⟨x', k, o, vk, vn, vs, nm, A1, m1, c1, q', e1, rfl, hx, hz, hg, ho⟩; obtain ⟨rfl, rfl, rfl⟩ := hg; have hlt2 := Rz.lt hz; have hb3 := al (Below.refl w2.heap.size w2) (.cells #[.int .i64 k, .int .i64 o, .int .i64 vk, .int .i64 vn, .string vs, .string nm, .slice A1 m1 c1] tE); obtain ⟨W3, hW3⟩ : ∃ W3, w2.alloc (.cells #[.int .i64 k, .int .i64 o, .int .i64 vk, .int .i64 vn, .string vs, .string nm, .slice A1 m1 c1] tE) = W3 := ⟨_, rfl⟩; rw [hW3] at hb3; have hc2 := ((ho.cel (by have := H3.out; omega) (H2.out.alloc _)).below hb3); have hz3 := hz.below hb3; have hd6 : Cel W3 w2.heap.size tE #[.int .i64 k, .int .i64 o, .int .i64 vk, .int .i64 vn, .string vs, .string nm, .slice A1 m1 c1] := hW3 ▸ Cel.new w2 _ _ rfl; have p2 := hz3.at_ 2; have d0 := hd6.at_ 0; have d1 := hd6.at_ 1; have d2 := hd6.at_ 2; have d3 := hd6.at_ 3; have d4 := hd6.at_ 4; have d5 := hd6.at_ 5; have d6 := hd6.at_ 6; have H4 := Lib.hid (show Below w.heap.size w W3 from (((al H1.out _).trans (ho.1.mono (by have := H3.out; omega))).trans (hb3.mono (by have := H3.out; omega)))); have H5 := Lib.hid (And.intro hc2 (And.intro hz3 hd6)); have HX3 := Lib.hid (show ExIn W3 (fun b => w.heap.size < b ∧ b < W3.heap.size) x' [.int .i64 k, .int .i64 o, .int .i64 vk, .int .i64 vn, .string vs, .string nm, .slice A1 m1 c1] from ExIn.to (fun b hb => ⟨by have := H3.out; have := (al (Below.refl w1.heap.size w1) (.cells #[.slice A n c, .int .i64 0, .int .i64 0] tSt)).size; omega, Nat.lt_of_lt_of_le hb.2 hb3.size⟩) (fun p hp => hb3.cell (p := p) hp.2) _ _ hx); clear hx hz ho hb3 hc2 hz3 hd6 hlt2)
      | (go_at_call 25; (refine (HHT.out _ _ (HX3.out.more fun b hb => hb.2)).mono ?_); rintro e' w4 ⟨rfl, hb⟩; have hc2 := H5.out.1.below hb; have hz3 := H5.out.2.1.below hb; have hd6 := H5.out.2.2.below hb; have p1 := hz3.at_ 1; have b0 := hc2.at_ 0; have b1 := hc2.at_ 1; have b2 := hc2.at_ 2; have b3 := hc2.at_ 3; have b4 := hc2.at_ 4; have b5 := hc2.at_ 5; have b6 := hc2.at_ 6; have f4 := fun i => hc2.open_ i; have d0 := hd6.at_ 0; have d1 := hd6.at_ 1; have d2 := hd6.at_ 2; have d3 := hd6.at_ 3; have d4 := hd6.at_ 4; have d5 := hd6.at_ 5; have d6 := hd6.at_ 6; have H6 := Lib.hid (Mem.on H4.out hb); have H7 := Lib.hid (show ExIn w4 (fun b => w.heap.size < b ∧ b < w4.heap.size) x' [.int .i64 k, .int .i64 o, .int .i64 vk, .int .i64 vn, .string vs, .string nm, .slice A1 m1 c1] from ExIn.to (fun b hb' => ⟨hb'.1, Nat.lt_of_lt_of_le hb'.2 hb.size⟩) (fun p hp => hb.cell (p := p) hp.2) _ _ HX3.out); clear hb hc2 hz3 hd6))
    go_region
    go_wp2
    (try simp only [Exit.inBlock, Exit.then])
    refine bodyPost_ret (v := .tuple #[.agg #[.int .i64 k, .int .i64 o, .int .i64 vk, .int .i64 vn, .string vs, .string nm, .slice A1 m1 c1], .int .i64 (q' : Int), .int .i64 0]) ?_ rfl ?_
    · simp only [results, Tryz.f8]
      go_simp
    exact (takeL_put H7.out rfl H6.out).drew
end Go.Proofs.YtlkmhdbmcfblkaaGreatDoor.Ep
