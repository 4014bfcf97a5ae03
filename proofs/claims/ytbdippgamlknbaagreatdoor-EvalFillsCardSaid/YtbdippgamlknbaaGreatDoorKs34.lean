/- A tree's parameters filled in place (eval.fill): any tree whose rows lie apart. Values in the place of parameters: what Fill tells; each parameter is there; how great it  -/
import Derived.Test.YtbdippgamlknbaaGreatDoorKs33
import Derived.Test.YtbdippgamlknbaaGreatDoorKs22
namespace Go.Proofs.YtbdippgamlknbaaGreatDoor.Eo
open Go.RowKit Go.Proofs.YtbdippgamlknbaaGreatDoor.Mem Go.Proofs.YtbdippgamlknbaaGreatDoor.Right Go.Proofs.YtbdippgamlknbaaGreatDoor.Lx Go.Proofs.YtbdippgamlknbaaGreatDoor.Ep Go.Proofs.YtbdippgamlknbaaGreatDoor.Ev
set_option linter.unusedVariables false
set_option linter.unusedSimpArgs false
/-- What fill is asked, and leaves. -/
def FillS (A : Option Addr) (n c : Nat) (vs : List Vl) (x : Ex) : Prop := ∀ (w : World) (B g q lo hi : Nat) (cur : Array Value) (cs : List Value), Cel w g tE cur → q + 7 ≤ cur.size → B ≤ g → B ≤ lo → (g < lo ∨ hi ≤ g) → hi ≤ w.heap.size → RnN w lo hi x cs →
  (∀ i u, cs[i]? = some u → w.cell? ⟨g, q + i, none⟩ = some u) → Vals w B A vs → AtU n x → size x ≤ 1000 →
  Calls Tryz.prog 38 #[.pointer (some ⟨g, q, none⟩), .slice A n c] w (FilC (vs.map vv) B g q lo hi x w)
theorem vv_right (v : Vl) : Right.okV (vv v).k (vv v).n (vv v).s = Right.okV v.k v.n v.s.data.toList := rfl
theorem fil_par {w w' : World} {B g q lo hi : Nat} {cur : Array Value} {o vk vn : Int} {vs0 nm : List UInt8} {kids : List Ex} {vs : List Vl} {v : Vl} {e : Ending} (hc : Cel w g tE cur) (hq : q + 7 ≤ cur.size) (hB : B ≤ g) (hj : vs[(o - 1).toNat]? = some v)
    (h : FilP w g q v e w') : FilC (vs.map vv) B g q lo hi (.mk 3 o vk vn vs0 nm kids) w e w' := by
  obtain ⟨rfl, w2, k', o', vk', vn', vs', nm', A', n', c', hb2, hin, hb3⟩ := h
  have hg : (vs.map vv).getD (o - 1).toNat nul = vv v := by rw [List.getD_eq_getElem?_getD, List.getElem?_map, hj]; rfl
  obtain ⟨cur', g1, g2, g3, g4⟩ := put7_cel (v0 := .int .i64 k') (v1 := .int .i64 o') (v2 := .int .i64 vk') (v3 := .int .i64 vn') (v4 := .string (txt vs')) (v5 := .string (txt nm')) (v6 := .slice A' n' c') (hc.below hb2) hq
  have hlt := hc.lt
  have hs2 := hb2.size
  refine ⟨by rw [okU_par, hg, vv_right], (Lft.put hb2 hB hlt hc hq).on hb3 (by rw [put7_size]; omega), fun _ => ⟨_, rfl, fun i u hu => (hb3.cell (p := ⟨g, _, none⟩) (by rw [put7_size]; exact Nat.lt_of_lt_of_le hlt hs2)).trans (by rw [g1.at_]; exact g3 i u hu), ?_⟩⟩
  have hs3 := hb3.size
  rw [put7_size] at hs3
  rw [fill_par', hg]
  exact ExIn.to (fun b hb => .inr ⟨hb.1, by omega⟩) (fun p hp => (hb3.cell (by rw [put7_size]; exact hp.2)).trans (World.cell?_of_block (put7_oth (by have := hp.1; omega)))) _ _ hin
set_option maxRecDepth 100000 in
set_option maxHeartbeats 4000000 in
theorem fill_any {A : Option Addr} {n c : Nat} {vs : List Vl} (hn : n = vs.length) (hm : n ≤ 1000000) (hb : ∀ v ∈ vs, (-9223372036854775808 ≤ v.n ∧ v.n ≤ 9223372036854775807) ∧ v.s.size ≤ maxLen) : ∀ x : Ex, FillS A n c vs x := by
  refine Ex.byKids fun k o vk vn vs0 nm kids ih w B g q lo hi cur cs hc hq hB hBlo hg hhi hR hcs hV hU hz => ?_
  obtain ⟨A', c', G, rfl, hl1, hl2, hl3, hl4, hl5⟩ := (rnN_mk _ _ _ _ _ _ _ _ _ _ _).1 hR
  have c0 := hcs 0 _ rfl
  have c1 := hcs 1 _ rfl
  have c6 := hcs 6 _ rfl
  rw [Nat.add_zero] at c0
  by_cases h3 : k = 3
  · subst h3
    obtain ⟨h1, h2⟩ := ((atU_mk _ _ _ _ _ _ _ _).1 hU).1 rfl
    obtain ⟨v, hv⟩ : ∃ v, vs[(o - 1).toNat]? = some v := ⟨_, List.getElem?_eq_getElem (by omega)⟩
    exact (fill_par o hc hq c0 c1 (hV.more (Nat.le_trans hB (Nat.le_of_lt hc.lt))) hn hm hb v (o - 1).toNat (by omega) hv).mono fun e w' h => fil_par hc hq hB hv h
  have hU2 := ((atU_mk _ _ _ _ _ _ _ _).1 hU).2
  rw [size] at hz
  have hlen := sizeL_len kids
  obtain ⟨N, hN⟩ : ∃ N, kids.length = N := ⟨_, rfl⟩
  rw [hN] at c6
  have HN := Lib.hid hN
  have HIH := Lib.hid ih
  have HC := Lib.hid (show Cel w g tE cur ∧ q + 7 ≤ cur.size ∧ B ≤ lo ∧ (g < lo ∨ hi ≤ g) ∧ hi ≤ w.heap.size ∧ B ≤ g from ⟨hc, hq, hBlo, hg, hhi, hB⟩)
  have HCS := Lib.hid hcs
  have HV := Lib.hid hV
  have HU := Lib.hid hU2
  have HZ := Lib.hid (show sizeL kids ≤ 1000 by omega)
  have HNB := Lib.hid (show N ≤ 1000 by omega)
  have HP0 := Lib.hid (show kids ≠ [] → A' = some ⟨G, 0, none⟩ ∧ lo ≤ G ∧ G < hi ∧ Prg (vs.map vv) w.heap.size G hi kids 0 w from fun hne => ⟨(hl4 hne).1, (hl4 hne).2.1, (hl4 hne).2.2.1, Prg.start hl5 (hl4 hne).2.2.1 (hl4 hne).2.2.2⟩)
  have HA := Lib.hid (show kids.length ≤ c' ∧ c' ≤ maxLen ∧ (A' = none → c' = 0) from ⟨hl1, hl2, hl3⟩)
  have HOK := Lib.hid (show okU (vs.map vv) (.mk k o vk vn vs0 nm kids) = okUL (vs.map vv) kids from okU_kids _ h3 _ _ _ _ _ _)
  have HFI := Lib.hid (show fill (vs.map vv) (.mk k o vk vn vs0 nm kids) = .mk k o vk vn vs0 nm (kids.map (fill (vs.map vv))) from fill_kids _ h3 _ _ _ _ _ _)
  have hNB : N ≤ 1000 := HNB.out
  have t3 : (k == 3) = false := by simpa using h3
  clear ih hc hq hB hBlo hg hhi hR hcs hV hU hU2 hz hl1 hl2 hl3 hl4 hl5 hn hb c1 hlen hN
  go_enter Tryz.func38, Tryz.ntmps38
  go_wp2
  go_loopw [31] (fun i wr => ∃ j : Nat, j ≤ N ∧ i = .int .i64 (j : Int) ∧ Hid (kids ≠ [] → Prg (vs.map vv) w.heap.size G hi kids j wr) ∧ Hid (Lf0 B lo hi w wr)) (fun i _ => N + 1 - (intOf i).toNat)
  case atStart => exact ⟨0, Nat.zero_le _, rfl, Lib.hid fun hne => (HP0.out hne).2.2.2, Lib.hid (Lf0.refl _ _ _ _)⟩
  case round =>
    obtain ⟨j, hj, rfl, HP, HL⟩ := hrel
    have q6 := (HL.out.cel HC.out.2.2.2.1 HC.out.1).at_ (q + 6)
    rw [← HC.out.1.at_, c6] at q6
    by_cases hlt : j < N
    · have hne : kids ≠ [] := fun e => by have := HN.out; subst e; simp at this; omega
      obtain ⟨rfl, hG1, hG2, -⟩ := HP0.out hne
      obtain ⟨y, hy⟩ := kid_some (l := kids) (j := j) (by have := HN.out; omega)
      obtain ⟨m, mid, ds, cur1, k1, k2, k3, k4, k5, k6, k7, k8, k9⟩ := (HP.out hne).next hy
      have HNX := Lib.hid k9
      have hsz := HL.out.1.size
      have HCL := Lib.hid (HIH.out y (kid_mem hy) wr B G (j * 7) m mid cur1 ds k5 k6 (by have := HC.out.2.2.1; omega) (by have := HC.out.2.2.1; omega) (.inl (by omega)) (by have := HC.out.2.2.2.2.1; omega) k8 k7 (HV.out.below HL.out.1 (Nat.le_refl _)) (HU.out y (kid_mem hy)) (by have := sizeL_mem (kid_mem hy); have := HZ.out; omega))
      have HK := Lib.hid (show G + 1 ≤ m ∧ m ≤ mid ∧ mid ≤ hi ∧ lo ≤ G ∧ G < hi ∧ w.heap.size ≤ wr.heap.size from ⟨k1, k2, k3, hG1, hG2, hsz⟩)
      have HY := Lib.hid hy
      obtain ⟨r, hr⟩ : ∃ r, okU (vs.map vv) y = r := ⟨_, rfl⟩
      have HR := Lib.hid hr
      have tl : decide ((j : Int) < (N : Int)) = true := decide_eq_true (by omega)
      clear hy k1 k2 k3 k4 k5 k6 k7 k8 k9 hr hG1 hG2 hne hsz
      cases r with
      | false =>
        go_wp2_with (go_at_call 38; (with_reducible refine HCL.out.mono ?_); rintro e2 w2 hf; obtain ⟨e0, hL2, -⟩ := hf; rw [HR.out] at e0; subst e0; have HL2 := Lib.hid hL2; clear hL2)
        go_ret
        exact ⟨by rw [HOK.out, okUL_no (kid_mem HY.out) HR.out]; rfl, (HL.out.kid HL2.out ⟨HK.out.2.2.2.1, HK.out.2.2.2.2.1⟩ (by have := HK.out; omega) HK.out.2.2.1).lft HC.out.2.2.2.1, fun h => by rw [HOK.out, okUL_no (kid_mem HY.out) HR.out] at h; cases h⟩
      | true =>
        go_wp2_with (go_at_call 38; (with_reducible refine HCL.out.mono ?_); rintro e2 w2 hf; have HF2 := Lib.hid hf; obtain ⟨e0, hL2, -⟩ := hf; rw [HR.out] at e0; subst e0; have HL2 := Lib.hid hL2; clear hL2)
        go_roundw
        case rel => exact ⟨j + 1, by omega, by go_num, Lib.hid fun hne => HNX.out _ _ _ (by have := HC.out.2.2.2.2.1; have := HK.out; omega) HK.out.2.2.2.2.2 HC.out.2.2.2.2.1 HF2.out HR.out, Lib.hid (HL.out.kid HL2.out ⟨HK.out.2.2.2.1, HK.out.2.2.2.2.1⟩ (by have := HK.out; omega) HK.out.2.2.1)⟩
        case measure => simp [intOf]; omega
    · have tl : decide ((j : Int) < (N : Int)) = false := decide_eq_false (by omega)
      obtain rfl : j = N := by omega
      go_wp2
      go_ret
      have hD : okUL (vs.map vv) kids = true ∧ KidsIn wr (fun b => lo ≤ b ∧ b < hi ∨ w.heap.size ≤ b ∧ b < wr.heap.size) A' 0 (kids.map (fill (vs.map vv))) := by
        by_cases hne : kids = []
        · subst hne
          exact ⟨by rw [okUL], kidsIn_nil _ _ _ _⟩
        · obtain ⟨rfl, hG1, hG2, -⟩ := HP0.out hne
          have h := HP.out hne
          rw [← HN.out] at h
          exact ⟨h.done.1, KidsIn.to (fun b hb => by omega) (fun _ _ => rfl) h.done.2⟩
      refine ⟨by rw [HOK.out, hD.1]; rfl, HL.out.lft HC.out.2.2.2.1, fun _ => ⟨_, rfl, fun i u hu => (World.cell?_of_block (HL.out.2 g HC.out.1.lt HC.out.2.2.2.1)).trans (HCS.out i u hu), ?_⟩⟩
      rw [HFI.out]
      refine (exIn_mk _ _ _ _ _ _ _ _ _ _).2 ⟨A', c', by rw [List.length_map, HN.out]; rfl, by rw [List.length_map]; exact HA.out.1, HA.out.2.1, HA.out.2.2, hD.2⟩
end Go.Proofs.YtbdippgamlknbaaGreatDoor.Eo
namespace Go.Proofs.YtbdippgamlknbaaGreatDoor.Eo
open Go.RowKit Go.Proofs.YtbdippgamlknbaaGreatDoor.Mem Go.Proofs.YtbdippgamlknbaaGreatDoor.Right Go.Proofs.YtbdippgamlknbaaGreatDoor.Lx Go.Proofs.YtbdippgamlknbaaGreatDoor.Ep Go.Proofs.YtbdippgamlknbaaGreatDoor.Ev Go.Proofs.YtbdippgamlknbaaGreatDoor.Tk
set_option linter.unusedVariables false
def zx : Ex := .mk 0 0 0 0 [] [] []
/-- What Fill tells. -/
def fillT (ps : List Vv) (x : Ex) : Ex × Int :=
  if checkE true x ≠ 0 then (zx, checkE true x) else if (ps.length : Int) < parE 0 x then (zx, 37) else if okU ps x = false then (zx, 2) else if 8 < hgt (fill ps x) then (zx, 17) else (fill ps x, 0)
mutual
theorem parE_max : ∀ (x : Ex) (m : Int), 0 ≤ m → parE m x = max m (pmax x)
  | .mk k o vk vn vs nm kids, m, h => by
    rw [parE_mk, pmax]
    by_cases c : k = 3
    · rw [if_pos c, if_pos c, parL_max kids _ (by omega)]; omega
    · rw [if_neg c, if_neg c, parL_max kids _ h]; omega
theorem parL_max : ∀ (l : List Ex) (m : Int), 0 ≤ m → parL m l = max m (pmaxL l)
  | [], m, h => by rw [parL, pmaxL]; omega
  | x :: l, m, h => by rw [parL, pmaxL, parE_max x m h, parL_max l _ (by omega)]; omega
end
theorem pmaxL_mem {l : List Ex} {x : Ex} (hx : x ∈ l) : pmax x ≤ pmaxL l := by
  induction l with
  | nil => cases hx
  | cons y l ih =>
    rw [pmaxL]
    rcases List.mem_cons.1 hx with rfl | hx
    · omega
    · have := ih hx; omega
theorem at_kids {n : Nat} {k o vk vn : Int} {vs nm : List UInt8} {kids : List Ex} (h : pmax (.mk k o vk vn vs nm kids) ≤ (n : Int)) : (k = 3 → o ≤ (n : Int)) ∧ ∀ x ∈ kids, pmax x ≤ (n : Int) := by
  rw [pmax] at h
  refine ⟨fun c => ?_, fun x hx => ?_⟩
  · rw [if_pos c] at h; omega
  · have := pmaxL_mem hx; omega
/-- What is right has each parameter. -/
theorem atU_of {slots : Bool} {n : Nat} {e : Ex} (h : Rs slots e) : pmax e ≤ (n : Int) → AtU n e := by
  induction h with
  | lit h1 h2 => intro u; exact (atU_mk _ _ _ _ _ _ _ _).2 ⟨fun c => absurd c (by decide), fun x hx => by cases hx⟩
  | col h => intro u; exact (atU_mk _ _ _ _ _ _ _ _).2 ⟨fun c => absurd c (by decide), fun x hx => by cases hx⟩
  | par h1 h2 => intro u; exact (atU_mk _ _ _ _ _ _ _ _).2 ⟨fun c => ⟨h1, (at_kids u).1 rfl⟩, fun x hx => by cases hx⟩
  | un h1 h2 h ih =>
    intro u
    refine (atU_mk _ _ _ _ _ _ _ _).2 ⟨fun c => absurd c (by decide), fun x hx => ?_⟩
    have hu := (at_kids u).2 x hx
    simp only [List.mem_singleton] at hx
    subst hx
    exact ih hu
  | bin h1 h2 h h' ih ih' =>
    intro u
    refine (atU_mk _ _ _ _ _ _ _ _).2 ⟨fun c => absurd c (by decide), fun x hx => ?_⟩
    have hu := (at_kids u).2 x hx
    simp only [List.mem_cons, List.not_mem_nil, or_false] at hx
    rcases hx with rfl | rfl
    · exact ih hu
    · exact ih' hu
  | inn h1 h2 h h' ih ih' =>
    intro u
    refine (atU_mk _ _ _ _ _ _ _ _).2 ⟨fun c => absurd c (by decide), fun x hx => ?_⟩
    have hu := (at_kids u).2 x hx
    rcases List.mem_cons.1 hx with rfl | hx
    · exact ih hu
    · exact ih' x hx hu
  | call h1 h2 h ih =>
    intro u
    exact (atU_mk _ _ _ _ _ _ _ _).2 ⟨fun c => absurd c (by decide), fun x hx => ih x hx ((at_kids u).2 x hx)⟩
  | slot hs h1 h2 => intro u; exact (atU_mk _ _ _ _ _ _ _ _).2 ⟨fun c => absurd c (by decide), fun x hx => by cases hx⟩
theorem check_right {slots : Bool} {e : Ex} (h0 : checkE slots e = 0) : rightB slots e = true := by
  unfold checkE at h0
  split at h0
  · cases h0
  · split at h0
    · rename_i h; exact h
    · cases h0
theorem fill_at {ps : List Vv} {x : Ex} (h0 : checkE true x = 0) (h1 : ¬ (ps.length : Int) < parE 0 x) : AtU ps.length x := by
  rw [parE_max _ _ (Int.le_refl _)] at h1
  exact atU_of (rs_of x (check_right h0)) (by omega)
theorem size_litX (v : Vv) : size (litX v) ≤ 4 := by
  unfold litX
  split
  · unfold lit; rw [size, sizeL]; omega
  split
  · unfold bin un lit
    rw [size, sizeL, sizeL, sizeL, size, size, sizeL, sizeL, sizeL, size, sizeL]; omega
  · unfold un lit
    rw [size, sizeL, sizeL, size, sizeL]; omega
mutual
theorem size_fill (ps : List Vv) : ∀ x : Ex, size (fill ps x) ≤ 4 * size x
  | .mk k o vk vn vs nm kids => by
    rw [fill, size]
    split
    · have := size_litX (ps.getD (o - 1).toNat nul); omega
    · rw [size]
      have := sizeL_fill ps kids
      omega
theorem sizeL_fill (ps : List Vv) : ∀ l : List Ex, sizeL (fillL ps l) ≤ 4 * sizeL l
  | [] => by rw [fillL, sizeL]; omega
  | x :: l => by
    rw [fillL, sizeL, sizeL]
    have h1 := size_fill ps x
    have h2 := sizeL_fill ps l
    omega
end
end Go.Proofs.YtbdippgamlknbaaGreatDoor.Eo
