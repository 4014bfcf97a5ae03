/- A tree's parameters filled in place (eval.fill): any tree whose rows lie apart. -/
import Derived.Test.YtbdippgamlknbaaDoorKs40
namespace Go.Proofs.YtbdippgamlknbaaDoor.Eo
open Go.RowKit Go.Proofs.YtbdippgamlknbaaDoor.Mem Go.Proofs.YtbdippgamlknbaaDoor.Right Go.Proofs.YtbdippgamlknbaaDoor.Lx Go.Proofs.YtbdippgamlknbaaDoor.Ep Go.Proofs.YtbdippgamlknbaaDoor.Ev
set_option linter.unusedVariables false
set_option linter.unusedSimpArgs false
/-- What fill is asked, and leaves. -/
def FillS (A : Option Addr) (n c : Nat) (vs : List Vl) (x : Ex) : Prop := ∀ (w : World) (B g q lo hi : Nat) (cur : Array Value) (cs : List Value), Cel w g tE cur → q + 7 ≤ cur.size → B ≤ g → B ≤ lo → (g < lo ∨ hi ≤ g) → hi ≤ w.heap.size → RnN w lo hi x cs →
  (∀ i u, cs[i]? = some u → w.cell? ⟨g, q + i, none⟩ = some u) → Vals w B A vs → AtU n x → size x ≤ 1000 →
  Calls Tryd.prog 56 #[.pointer (some ⟨g, q, none⟩), .slice A n c] w (FilC (vs.map vv) B g q lo hi x w)
theorem vv_right (v : Vl) : Right.okV (vv v).k (vv v).n (vv v).s = Right.okV v.k v.n v.s.data.toList := rfl
theorem fil_par {w w' : World} {B g q lo hi : Nat} {cur : Array Value} {o vk vn : Int} {vs0 nm : List UInt8} {kids : List Ex} {vs : List Vl} {v : Vl} {e : Ending} (hc : Cel w g tE cur) (hq : q + 7 ≤ cur.size) (hB : B ≤ g) (hj : vs[(o - 1).toNat]? = some v)
    (h : FilP w g q v e w') : FilC (vs.map vv) B g q lo hi (.mk 3 o vk vn vs0 nm kids) w e w' := by
  obtain ⟨rfl, w2, k', o', vk', vn', vs', nm', A', n', c', hb2, hin, hb3⟩ := h
  have hg : (vs.map vv).getD (o - 1).toNat nul = vv v := by rw [List.getD_eq_getElem?_getD, List.getElem?_map, hj]; rfl
  obtain ⟨cur', g1, g2, g3, g4⟩ := put7_cel (v0 := .int .i64 k') (v1 := .int .i64 o') (v2 := .int .i64 vk') (v3 := .int .i64 vn') (v4 := .string (txt vs')) (v5 := .string (txt nm')) (v6 := .slice A' n' c') (hc.below hb2) hq
  have hlt := hc.lt
  have hs2 := hb2.size
  refine ⟨by rw [okU_par, hg, vv_right], (Lft.put hb2 hB hlt hc hq).on hb3 (by rw [put7_size]; omega), fun _ => ⟨_, rfl, fun i u hu => (hb3.cell (p := ⟨g, _, none⟩) (by rw [put7_size]; exact Nat.lt_of_lt_of_le hlt hs2)).trans (by rw [g1.at_]; exact g3 i u hu), ?_⟩⟩
  have hs3 := hb3.size
  rw [put7_size] at hs3
  rw [fill_par', hg]
  exact ExIn.to (fun b hb => .inr ⟨hb.1, by omega⟩) (fun p hp => (hb3.cell (by rw [put7_size]; exact hp.2)).trans (World.cell?_of_block (put7_oth (by have := hp.1; omega)))) _ _ hin
set_option maxRecDepth 100000 in
set_option maxHeartbeats 4000000 in
theorem fill_any {A : Option Addr} {n c : Nat} {vs : List Vl} (hn : n = vs.length) (hm : n ≤ 1000000) (hb : ∀ v ∈ vs, (-9223372036854775808 ≤ v.n ∧ v.n ≤ 9223372036854775807) ∧ v.s.size ≤ maxLen) : ∀ x : Ex, FillS A n c vs x := by
  refine Ex.byKids fun k o vk vn vs0 nm kids ih w B g q lo hi cur cs hc hq hB hBlo hg hhi hR hcs hV hU hz => ?_
  obtain ⟨A', c', G, rfl, hl1, hl2, hl3, hl4, hl5⟩ := (rnN_mk _ _ _ _ _ _ _ _ _ _ _).1 hR
  have c0 := hcs 0 _ rfl
  have c1 := hcs 1 _ rfl
  have c6 := hcs 6 _ rfl
  rw [Nat.add_zero] at c0
  by_cases h3 : k = 3
  · subst h3
    obtain ⟨h1, h2⟩ := ((atU_mk _ _ _ _ _ _ _ _).1 hU).1 rfl
    obtain ⟨v, hv⟩ : ∃ v, vs[(o - 1).toNat]? = some v := ⟨_, List.getElem?_eq_getElem (by omega)⟩
    exact (fill_par o hc hq c0 c1 (hV.more (Nat.le_trans hB (Nat.le_of_lt hc.lt))) hn hm hb v (o - 1).toNat (by omega) hv).mono fun e w' h => fil_par hc hq hB hv h
  have hU2 := ((atU_mk _ _ _ _ _ _ _ _).1 hU).2
  rw [size] at hz
  have hlen := sizeL_len kids
  obtain ⟨N, hN⟩ : ∃ N, kids.length = N := ⟨_, rfl⟩
  rw [hN] at c6
  have HN := Lib.hid hN
  have HIH := Lib.hid ih
  have HC := Lib.hid (show Cel w g tE cur ∧ q + 7 ≤ cur.size ∧ B ≤ lo ∧ (g < lo ∨ hi ≤ g) ∧ hi ≤ w.heap.size ∧ B ≤ g from ⟨hc, hq, hBlo, hg, hhi, hB⟩)
  have HCS := Lib.hid hcs
  have HV := Lib.hid hV
  have HU := Lib.hid hU2
  have HZ := Lib.hid (show sizeL kids ≤ 1000 by omega)
  have HNB := Lib.hid (show N ≤ 1000 by omega)
  have HP0 := Lib.hid (show kids ≠ [] → A' = some ⟨G, 0, none⟩ ∧ lo ≤ G ∧ G < hi ∧ Prg (vs.map vv) w.heap.size G hi kids 0 w from fun hne => ⟨(hl4 hne).1, (hl4 hne).2.1, (hl4 hne).2.2.1, Prg.start hl5 (hl4 hne).2.2.1 (hl4 hne).2.2.2⟩)
  have HA := Lib.hid (show kids.length ≤ c' ∧ c' ≤ maxLen ∧ (A' = none → c' = 0) from ⟨hl1, hl2, hl3⟩)
  have HOK := Lib.hid (show okU (vs.map vv) (.mk k o vk vn vs0 nm kids) = okUL (vs.map vv) kids from okU_kids _ h3 _ _ _ _ _ _)
  have HFI := Lib.hid (show fill (vs.map vv) (.mk k o vk vn vs0 nm kids) = .mk k o vk vn vs0 nm (kids.map (fill (vs.map vv))) from fill_kids _ h3 _ _ _ _ _ _)
  have hNB : N ≤ 1000 := HNB.out
  have t3 : (k == 3) = false := by simpa using h3
  clear ih hc hq hB hBlo hg hhi hR hcs hV hU hU2 hz hl1 hl2 hl3 hl4 hl5 hn hb c1 hlen hN
  go_enter Tryd.func56, Tryd.ntmps56
  go_wp2
  go_loopw [31] (fun i wr => ∃ j : Nat, j ≤ N ∧ i = .int .i64 (j : Int) ∧ Hid (kids ≠ [] → Prg (vs.map vv) w.heap.size G hi kids j wr) ∧ Hid (Lf0 B lo hi w wr)) (fun i _ => N + 1 - (intOf i).toNat)
  case atStart => exact ⟨0, Nat.zero_le _, rfl, Lib.hid fun hne => (HP0.out hne).2.2.2, Lib.hid (Lf0.refl _ _ _ _)⟩
  case round =>
    obtain ⟨j, hj, rfl, HP, HL⟩ := hrel
    have q6 := (HL.out.cel HC.out.2.2.2.1 HC.out.1).at_ (q + 6)
    rw [← HC.out.1.at_, c6] at q6
    by_cases hlt : j < N
    · have hne : kids ≠ [] := fun e => by have := HN.out; subst e; simp at this; omega
      obtain ⟨rfl, hG1, hG2, -⟩ := HP0.out hne
      obtain ⟨y, hy⟩ := kid_some (l := kids) (j := j) (by have := HN.out; omega)
      obtain ⟨m, mid, ds, cur1, k1, k2, k3, k4, k5, k6, k7, k8, k9⟩ := (HP.out hne).next hy
      have HNX := Lib.hid k9
      have hsz := HL.out.1.size
      have HCL := Lib.hid (HIH.out y (kid_mem hy) wr B G (j * 7) m mid cur1 ds k5 k6 (by have := HC.out.2.2.1; omega) (by have := HC.out.2.2.1; omega) (.inl (by omega)) (by have := HC.out.2.2.2.2.1; omega) k8 k7 (HV.out.below HL.out.1 (Nat.le_refl _)) (HU.out y (kid_mem hy)) (by have := sizeL_mem (kid_mem hy); have := HZ.out; omega))
      have HK := Lib.hid (show G + 1 ≤ m ∧ m ≤ mid ∧ mid ≤ hi ∧ lo ≤ G ∧ G < hi ∧ w.heap.size ≤ wr.heap.size from ⟨k1, k2, k3, hG1, hG2, hsz⟩)
      have HY := Lib.hid hy
      obtain ⟨r, hr⟩ : ∃ r, okU (vs.map vv) y = r := ⟨_, rfl⟩
      have HR := Lib.hid hr
      have tl : decide ((j : Int) < (N : Int)) = true := decide_eq_true (by omega)
      clear hy k1 k2 k3 k4 k5 k6 k7 k8 k9 hr hG1 hG2 hne hsz
      cases r with
      | false =>
        go_wp2_with (go_at_call 56; (with_reducible refine HCL.out.mono ?_); rintro e2 w2 hf; obtain ⟨e0, hL2, -⟩ := hf; rw [HR.out] at e0; subst e0; have HL2 := Lib.hid hL2; clear hL2)
        go_ret
        exact ⟨by rw [HOK.out, okUL_no (kid_mem HY.out) HR.out]; rfl, (HL.out.kid HL2.out ⟨HK.out.2.2.2.1, HK.out.2.2.2.2.1⟩ (by have := HK.out; omega) HK.out.2.2.1).lft HC.out.2.2.2.1, fun h => by rw [HOK.out, okUL_no (kid_mem HY.out) HR.out] at h; cases h⟩
      | true =>
        go_wp2_with (go_at_call 56; (with_reducible refine HCL.out.mono ?_); rintro e2 w2 hf; have HF2 := Lib.hid hf; obtain ⟨e0, hL2, -⟩ := hf; rw [HR.out] at e0; subst e0; have HL2 := Lib.hid hL2; clear hL2)
        go_roundw
        case rel => exact ⟨j + 1, by omega, by go_num, Lib.hid fun hne => HNX.out _ _ _ (by have := HC.out.2.2.2.2.1; have := HK.out; omega) HK.out.2.2.2.2.2 HC.out.2.2.2.2.1 HF2.out HR.out, Lib.hid (HL.out.kid HL2.out ⟨HK.out.2.2.2.1, HK.out.2.2.2.2.1⟩ (by have := HK.out; omega) HK.out.2.2.1)⟩
        case measure => simp [intOf]; omega
    · have tl : decide ((j : Int) < (N : Int)) = false := decide_eq_false (by omega)
      obtain rfl : j = N := by omega
      go_wp2
      go_ret
      have hD : okUL (vs.map vv) kids = true ∧ KidsIn wr (fun b => lo ≤ b ∧ b < hi ∨ w.heap.size ≤ b ∧ b < wr.heap.size) A' 0 (kids.map (fill (vs.map vv))) := by
        by_cases hne : kids = []
        · subst hne
          exact ⟨by rw [okUL], kidsIn_nil _ _ _ _⟩
        · obtain ⟨rfl, hG1, hG2, -⟩ := HP0.out hne
          have h := HP.out hne
          rw [← HN.out] at h
          exact ⟨h.done.1, KidsIn.to (fun b hb => by omega) (fun _ _ => rfl) h.done.2⟩
      refine ⟨by rw [HOK.out, hD.1]; rfl, HL.out.lft HC.out.2.2.2.1, fun _ => ⟨_, rfl, fun i u hu => (World.cell?_of_block (HL.out.2 g HC.out.1.lt HC.out.2.2.2.1)).trans (HCS.out i u hu), ?_⟩⟩
      rw [HFI.out]
      refine (exIn_mk _ _ _ _ _ _ _ _ _ _).2 ⟨A', c', by rw [List.length_map, HN.out]; rfl, by rw [List.length_map]; exact HA.out.1, HA.out.2.1, HA.out.2.2, hD.2⟩
end Go.Proofs.YtbdippgamlknbaaDoor.Eo
