/- All parts of a tree, in the text's order: the document's list (registrarref10.Parts). The greatest parameter of a tree: the document's answer (registrarref10.Params). A tree that came in as an argument. -/
import Derived.Test.YtbdippgamlknbaaGreatDoorKs20
import Derived.Test.YtbdippgamlknbaaGreatDoorKs22
import Derived.BigQuiet
import Derived.OpenShut
import Derived.ChangeOld
import Derived.Test.YtbdippgamlknbaaGreatDoorKs06
namespace Go.Proofs.YtbdippgamlknbaaGreatDoor.Ep
open Go.RowKit Go.Proofs.YtbdippgamlknbaaGreatDoor.Mem Go.Proofs.YtbdippgamlknbaaGreatDoor.Right Go.Deep
set_option linter.unusedVariables false
mutual
def partsE : Ex → List Ex
  | .mk k o vk vn vs nm kids => .mk k o vk vn vs nm kids :: partsL kids
def partsL : List Ex → List Ex
  | [] => []
  | x :: l => partsE x ++ partsL l
end
theorem partsE_mk (k o vk vn : Int) (vs nm : List UInt8) (kids : List Ex) : partsE (.mk k o vk vn vs nm kids) = .mk k o vk vn vs nm kids :: partsL kids := by rw [partsE]
theorem partsL_app : ∀ l r : List Ex, partsL (l ++ r) = partsL l ++ partsL r
  | [], r => by rw [partsL]; rfl
  | x :: l, r => by rw [List.cons_append, partsL, partsL, partsL_app l r, List.append_assoc]
theorem partsL_take {l : List Ex} {j : Nat} {x : Ex} (h : l[j]? = some x) : partsL (l.take (j + 1)) = partsL (l.take j) ++ partsE x := by
  rw [List.take_add_one, h, partsL_app]
  show _ ++ partsL [x] = _
  rw [partsL, partsL, List.append_nil]
mutual
theorem parts_len : ∀ e : Ex, (partsE e).length = size e
  | .mk k o vk vn vs nm kids => by rw [partsE, size, List.length_cons, partsL_len kids, Nat.add_comm]
theorem partsL_len : ∀ l : List Ex, (partsL l).length = sizeL l
  | [] => by rw [partsL, sizeL]; rfl
  | x :: l => by rw [partsL, sizeL, List.length_append, parts_len x, partsL_len l]
end
theorem sizeL_app : ∀ l r : List Ex, sizeL (l ++ r) = sizeL l + sizeL r
  | [], r => by rw [sizeL]; simp
  | x :: l, r => by rw [List.cons_append, sizeL, sizeL, sizeL_app l r]; omega
theorem sizeL_take (l : List Ex) (j : Nat) : sizeL (l.take j) ≤ sizeL l := by
  have h : sizeL l = sizeL (l.take j) + sizeL (l.drop j) := by rw [← sizeL_app, List.take_append_drop]
  omega
/-- A whole list of trees behind a list of the call's own. -/
theorem wp_trees {P : Program} {w : World} {ops : Array Oper} {rest : List Oper} {o : Oper} {a : Act} {Q : Exit → Act → World → Prop} {t tE : TypeId} {bytes : Nat} (E : ElemK P t tE 7 bytes) (base b2 : Nat) (s y : Operand)
    (hgd : o.guard = none) (ho : o.op = .call { callee := .builtin .append, args := #[s, y], argTypes := #[t, t] })
    {v v2 : Value} {l r : List Ex} {S : Nat → Prop} (hs : a.eval s = v) (hown : OwnT w base tE S v l) (hy : a.eval y = v2) (hr : OwnT w b2 tE S v2 r) (hr0 : r ≠ []) (hS : ∀ b, S b → b < w.heap.size ∧ some b ≠ v.ownBlock)
    (hn : l.length + r.length ≤ 1000000) (hby : (l.length + r.length) * bytes ≤ 140737488355328) (hB : base ≤ w.heap.size)
    (h : ∀ v' w', OwnT w' base tE S v' (l ++ r) → w.grownBy w' v.ownBlock → (v'.ownBlock = v.ownBlock ∨ v'.ownBlock = some w.heap.size) → wpList P ops Q rest (a.put o.dst v') w') :
    wpList P ops Q (o :: rest) a w := by
  obtain ⟨i, z, ht, hi, hz, hz1, hz2, hzc, hk0⟩ := E
  obtain ⟨css, hl, h7, hrow, hcs⟩ := hown
  obtain ⟨css2, hl2, h72, hrow2, hcs2⟩ := hr
  obtain ⟨g, cap, cur, hv2, hgb, hgh, hcap, hmx, hsz, htk⟩ := hrow2.2.resolve_left (fun e => hr0 (by have := e.2; rw [List.length_map] at this; exact List.length_eq_zero_iff.1 this))
  rw [List.length_map] at hl hrow hl2 hv2 hrow2
  have hone : ∀ u ∈ css2.flatten, u.oneCell' = true := by
    intro u hu
    obtain ⟨cs, hcsm, huc⟩ := List.mem_flatten.1 hu
    obtain ⟨j, hj, rfl⟩ := List.mem_iff_getElem.1 hcsm
    obtain ⟨x, hx⟩ : ∃ x, r[j]? = some x := ⟨_, List.getElem?_eq_getElem (by omega)⟩
    exact ExIn.one (e := x) (hcs2 j (exDt x) _ (by rw [List.getElem?_map, hx]; rfl) (List.getElem?_eq_getElem hj)) u huc
  refine wpList_append_own_at _ hgd s y t ho base tE i z 7 bytes ht hi hz hz1 hz2 hzc hk0 v l.length css.flatten hs hrow ⟨g, 0, none⟩ r.length cap css2.flatten (hy.trans hv2) (by rw [flatk_len h72, hl2]) ?_ hone (by unfold maxLen; omega) hby hB ?_
  · intro j u hu
    have := hrow2.cells (g := g) (by rw [hv2]; rfl) _ _ hu
    exact this
  · intro v' w' h1 h2 _ h3
    refine h v' w' ⟨css ++ css2, by simp [hl, hl2], fun c hc => ?_, by rw [List.length_map, List.length_append, List.flatten_append]; exact h1, fun j d cs' he hc' => ?_⟩ h2 h3
    · rcases List.mem_append.1 hc with hc | hc
      · exact h7 c hc
      · exact h72 c hc
    have hfar : ∀ p : Addr, S p.block → w'.cell? p = w.cell? p := fun p hp => by
      have h4 := hS _ hp
      exact World.cell?_of_block (h2.block p.block h4.1 h4.2)
    rw [List.map_append] at he
    rcases Nat.lt_or_ge j l.length with hj | hj
    · rw [List.getElem?_append_left (by rw [List.length_map]; exact hj)] at he
      rw [List.getElem?_append_left (by omega)] at hc'
      exact DtIn.to (fun _ h => h) hfar d cs' (hcs j d cs' he hc')
    · rw [List.getElem?_append_right (by rw [List.length_map]; exact hj), List.length_map] at he
      rw [List.getElem?_append_right (by omega), hl] at hc'
      exact DtIn.to (fun _ h => h) hfar d cs' (hcs2 _ d cs' he hc')
theorem OwnT.less {w : World} {base b' : Nat} {tE : TypeId} {S : Nat → Prop} {v : Value} {l : List Ex} (h : OwnT w base tE S v l) (hb : b' ≤ base) : OwnT w b' tE S v l := by
  obtain ⟨css, h1, h2, h3, h4⟩ := h
  exact ⟨css, h1, h2, ⟨h3.1, h3.2.imp id fun ⟨g, cap, cur, g1, g2, g3⟩ => ⟨g, cap, cur, g1, Nat.le_trans hb g2, g3⟩⟩, h4⟩
theorem owt_one {w : World} {base : Nat} {tE : TypeId} {S : Nat → Prop} {x : Ex} {cs : List Value} (hx : ExIn w S x cs) (hS : ∀ b, S b → b < w.heap.size) (hB : base ≤ w.heap.size) : OwnT (w.alloc (.cells cs.toArray tE)) base tE S (.slice (some ⟨w.heap.size, 0, none⟩) 1 1) [x] := by
  have hl := hx.len
  refine ⟨[cs], rfl, by simpa using hl, ⟨by simp [hl], .inr ⟨w.heap.size, 1, cs.toArray, rfl, hB, heap_alloc_new w _, Nat.le_refl _, by unfold maxLen; omega, by simp [hl], by show List.take (1 * 7) cs = _; rw [List.take_of_length_le (by omega)]; simp⟩⟩, fun j d cs' he hc => ?_⟩
  match j, he, hc with
  | 0, he, hc =>
    simp at he hc
    subst he hc
    exact DtIn.to (fun _ h => h) (fun p hp => World.cell?_of_block (heap_alloc_old _ _ (hS _ hp))) _ _ hx
theorem elemPt : ElemK Tryz.prog 24 tE 7 88 := ElemK.of (z := .agg #[.int .i64 0, .int .i64 0, .int .i64 0, .int .i64 0, .string ByteArray.empty, .string ByteArray.empty, .slice none 0 0]) (by kernel_rfl) (by kernel_rfl) rfl (by decide)
set_option maxRecDepth 20000 in
set_option maxHeartbeats 4000000 in
theorem refParts_any (B : Nat) : ∀ (e : Ex) (cs : List Value) (w : World), ExAt w B e cs → B ≤ w.heap.size → size e ≤ 1000 →
    Calls Tryz.prog 42 #[.agg cs.toArray] w fun x w' => ∃ A c, x = .returned (.slice A (size e) c) ∧ OwnT w' w.heap.size tE (fun b => b < B) (.slice A (size e) c) (partsE e) ∧ Below w.heap.size w w' := by
  refine Ex.byKids fun k o vk vn vs nm kids ih cs w h hB hz => ?_
  obtain ⟨A, kn, c, rfl, hkn, -, -, -, hk⟩ := ex_open h
  rw [size] at hz
  obtain ⟨V, hV⟩ : ∃ W1, w.alloc (.cells #[.int .i64 k, .int .i64 o, .int .i64 vk, .int .i64 vn, .string (txt vs), .string (txt nm), .slice A kn c] tE) = W1 := ⟨_, rfl⟩
  have hb : Below w.heap.size w V := by rw [← hV]; exact al (Below.refl _ _) _
  have hbox : Cel V w.heap.size tE #[.int .i64 k, .int .i64 o, .int .i64 vk, .int .i64 vn, .string (txt vs), .string (txt nm), .slice A kn c] := by rw [← hV]; exact Cel.new w tE _ rfl
  have y0 : V.cell? ⟨w.heap.size, 0, none⟩ = some (.int .i64 k) := hbox.at_ 0
  have y1 : V.cell? ⟨w.heap.size, 1, none⟩ = some (.int .i64 o) := hbox.at_ 1
  have y2 : V.cell? ⟨w.heap.size, 2, none⟩ = some (.int .i64 vk) := hbox.at_ 2
  have y3 : V.cell? ⟨w.heap.size, 3, none⟩ = some (.int .i64 vn) := hbox.at_ 3
  have y4 : V.cell? ⟨w.heap.size, 4, none⟩ = some (.string (txt vs)) := hbox.at_ 4
  have y5 : V.cell? ⟨w.heap.size, 5, none⟩ = some (.string (txt nm)) := hbox.at_ 5
  have y6 : V.cell? ⟨w.heap.size, 6, none⟩ = some (.slice A kn c) := hbox.at_ 6
  have hBV : B ≤ V.heap.size := Nat.le_trans hB hb.size
  have hon := owt_one (base := V.heap.size) (tE := tE) (DtIn.below h (hb.mono hB)) (fun b hb' => Nat.lt_of_lt_of_le hb' hBV) (Nat.le_refl _)
  have HO := Lib.hid hon
  have HB := Lib.hid hb
  have HX := Lib.hid hbox
  have HK := Lib.hid hk
  have HN := Lib.hid hkn
  have HZ := Lib.hid hz
  have HBB := Lib.hid hB
  have hkm : kn ≤ 1000000 := by have := sizeL_len kids; omega
  clear hk h hkn hb hbox hBV hon hz hB
  obtain ⟨E, hE⟩ : ∃ E, Ex.mk k o vk vn vs nm kids = E := ⟨_, rfl⟩
  have HPE := Lib.hid (show partsE E = E :: partsL kids ∧ size E = 1 + sizeL kids from by rw [← hE]; exact ⟨partsE_mk _ _ _ _ _ _ _, by rw [size]; omega⟩)
  rw [hE] at HO ⊢
  clear hE
  go_enter Tryz.func42, Tryz.ntmps42
  go_wp2
  clear y0 y1 y2 y3 y4 y5 y6 hV
  go_loopw [4, 3] (fun i u wr => ∃ (j m : Nat) (v : Value), j ≤ kn ∧ i = .int .i64 (j : Int) ∧ v = u ∧ Hid (m = 1 + sizeL (kids.take j)) ∧ Hid (OwnT wr V.heap.size tE (fun b => b < B) v (E :: partsL (kids.take j))) ∧ Hid (Below V.heap.size V wr)) (fun i _ _ => kn + 1 - (intOf i).toNat)
  case atStart => exact ⟨0, 1, _, Nat.zero_le _, rfl, rfl, Lib.hid (by rw [List.take_zero, sizeL]), Lib.hid (by rw [List.take_zero, partsL]; exact HO.out), Lib.hid (al (Below.refl _ _) _)⟩
  case round =>
    obtain ⟨j, m, v, hj, rfl, rfl, HM, HL, HW⟩ := hrel
    have x6 : wr.cell? ⟨w.heap.size, 6, none⟩ = some (.slice A kn c) := (show Cel wr w.heap.size tE _ from (HW.out.block _ HX.out.lt).trans HX.out).at_ 6
    by_cases hlt : j < kn
    · obtain ⟨y, hy⟩ := kid_some (l := kids) (j := j) (by have := HN.out; omega)
      obtain ⟨k', o', vk', vn', vs', nm', ks', A', n', c', b, q, e, rfl, hbb, hn', c0, c1, c2, c3, c4, c5, c6, hin⟩ := kid_at HK.out hy
      have hsy : size y ≤ sizeL kids := sizeL_mem (kid_mem hy)
      have hbw := HB.out.trans (HW.out.mono HB.out.size)
      have hbb2 : b < w.heap.size := Nat.lt_of_lt_of_le hbb HBB.out
      have c0 := (hbw.cell (p := ⟨b, q + j * 7, none⟩) hbb2).trans c0
      have c1 := (hbw.cell (p := ⟨b, q + j * 7 + 1, none⟩) hbb2).trans c1
      have c2 := (hbw.cell (p := ⟨b, q + j * 7 + 2, none⟩) hbb2).trans c2
      have c3 := (hbw.cell (p := ⟨b, q + j * 7 + 3, none⟩) hbb2).trans c3
      have c4 := (hbw.cell (p := ⟨b, q + j * 7 + 4, none⟩) hbb2).trans c4
      have c5 := (hbw.cell (p := ⟨b, q + j * 7 + 5, none⟩) hbb2).trans c5
      have c6 := (hbw.cell (p := ⟨b, q + j * 7 + 6, none⟩) hbb2).trans c6
      obtain ⟨z, hzz⟩ : ∃ z, size y = z := ⟨_, rfl⟩
      have HI := Lib.hid (show Calls Tryz.prog 42 #[exV k' o' vk' vn' (txt vs') (txt nm') A' n' c'] wr fun x w' => ∃ A c, x = .returned (.slice A z c) ∧ OwnT w' wr.heap.size tE (fun b => b < B) (.slice A z c) (partsE y) ∧ Below wr.heap.size wr w' from hzz ▸ ih y (kid_mem hy) _ wr (ExAt.below hin (hbw.mono HBB.out)) (Nat.le_trans HBB.out hbw.size) (by have := HZ.out; omega))
      have HT := Lib.hid (show E :: partsL (kids.take (j + 1)) = (E :: partsL (kids.take j)) ++ partsE y ∧ 1 + sizeL (kids.take (j + 1)) = m + z ∧ (E :: partsL (kids.take j)).length = m ∧ (partsE y).length = z ∧ partsE y ≠ [] ∧ m + z ≤ 2000 from by
        refine ⟨by rw [partsL_take hy]; rfl, ?_, by rw [List.length_cons, partsL_len, HM.out]; omega, by rw [parts_len, hzz], fun g => ?_, ?_⟩
        · rw [List.take_add_one, hy, sizeL_app]
          show 1 + (_ + sizeL [y]) = _
          rw [sizeL, sizeL, HM.out]; omega
        · have h1 := parts_len y
          have h2 := size_pos y
          rw [g] at h1
          simp at h1; omega
        · have h1 := sizeL_take kids j
          have h2 := HZ.out
          have h3 := HM.out
          omega)
      have tl : decide ((j : Int) < (kn : Int)) = true := decide_eq_true (by omega)
      clear hin hn' e hy hsy hbw hbb hbb2 hzz
      go_wp2_with (first | (go_at_call 42; (with_reducible refine HI.out.mono ?_); rintro e' w2 ⟨A2, a2, rfl, ho2, hb2⟩; have HO2 := Lib.hid ho2; have HB2 := Lib.hid hb2; have HL2 := Lib.hid (show OwnT w2 V.heap.size tE (fun b => b < B) v (E :: partsL (kids.take j)) from HL.out.kept (grown_below (r := none) hb2) (by cases hv : v.ownBlock with | none => exact .inl rfl | some k => exact .inr (by simp)) (fun b hb' => ⟨by have h1 := HBB.out; have h2 := HB.out.size; have h3 := HW.out.size; omega, by simp⟩)); clear ho2 hb2) | (at_builtin; refine wp_trees elemPt V.heap.size wr.heap.size (.tmp 14) (.tmp 20) rfl rfl rfl HL2.out rfl HO2.out HT.out.2.2.2.2.1 (fun b hb' => ⟨by have h1 := HBB.out; have h2 := HB.out.size; have h3 := HW.out.size; have h4 := HB2.out.size; omega, fun e => by have h1 := (HL2.out.lt _ e.symm).1; have h2 := HBB.out; have h3 := HB.out.size; omega⟩) (by rw [HT.out.2.2.1, HT.out.2.2.2.1]; have := HT.out.2.2.2.2.2; omega) (by rw [HT.out.2.2.1, HT.out.2.2.2.1]; have := HT.out.2.2.2.2.2; omega) (by have h1 := HW.out.size; have h2 := HB2.out.size; omega) ?_; intro v3 w3 g1 g2 g3; obtain ⟨A3, a3, e3, -⟩ := g1.form; rw [List.length_append, HT.out.2.2.1, HT.out.2.2.2.1] at e3; subst e3; have HL3 := Lib.hid g1; have HW3 := Lib.hid (show Below V.heap.size V w3 from (HW.out.trans (HB2.out.mono HW.out.size)).trans ⟨g2.os, g2.tape, g2.output, g2.size, fun j hj => g2.block j (by have h1 := HW.out.size; have h2 := HB2.out.size; omega) (fun e => by have := (HL2.out.lt _ e.symm).1; omega)⟩); clear g1 g2 g3))
      go_roundw
      case rel => exact ⟨j + 1, m + z, _, by omega, by go_num, rfl, Lib.hid HT.out.2.1.symm, by rw [HT.out.1]; exact HL3, HW3⟩
      case measure => simp [intOf]; omega
    · have tl : decide ((j : Int) < (kn : Int)) = false := decide_eq_false (by omega)
      have hd2 : kids.take j = kids := List.take_of_length_le (by have := HN.out; omega)
      rw [hd2] at HL HM
      obtain ⟨A3, a3, hv3, -⟩ := HL.out.form
      have hl3 : (E :: partsL kids).length = size E := by rw [← HPE.out.1, parts_len]
      rw [hl3] at hv3
      subst hv3
      clear hl3
      go_wp2
      go_ret
      exact ⟨A3, a3, rfl, by rw [HPE.out.1]; exact HL.out.less HB.out.size, HB.out.trans (HW.out.mono HB.out.size)⟩
end Go.Proofs.YtbdippgamlknbaaGreatDoor.Ep
namespace Go.Proofs.YtbdippgamlknbaaGreatDoor.Tk
open Go.RowKit Go.Proofs.YtbdippgamlknbaaGreatDoor.Mem Go.Proofs.YtbdippgamlknbaaGreatDoor.Ep Go.Proofs.YtbdippgamlknbaaGreatDoor.Right
set_option linter.unusedVariables false
def kindE : Ex → Int
  | .mk k _ _ _ _ _ _ => k
def opE : Ex → Int
  | .mk _ o _ _ _ _ _ => o
mutual
theorem par_parts : ∀ (e : Ex) (n : Int), parE n e = (partsE e).foldl (fun m p => if kindE p = 3 then max m (opE p) else m) n
  | .mk k o vk vn vs nm kids, n => by rw [parE, partsE, List.foldl_cons, parL_parts kids]; rfl
theorem parL_parts : ∀ (l : List Ex) (n : Int), parL n l = (partsL l).foldl (fun m p => if kindE p = 3 then max m (opE p) else m) n
  | [], n => by rw [parL, partsL]; rfl
  | x :: l, n => by rw [parL, partsL, List.foldl_append, par_parts x, parL_parts l]
end
def parP (l : List Ex) : Int := l.foldl (fun m p => if kindE p = 3 then max m (opE p) else m) 0
theorem parP_on {l : List Ex} {j : Nat} {x : Ex} (h : l[j]? = some x) : parP (l.take (j + 1)) = (if kindE x = 3 then max (parP (l.take j)) (opE x) else parP (l.take j)) := by
  unfold parP
  rw [List.take_add_one, h, List.foldl_append]; rfl
set_option maxRecDepth 20000 in
set_option maxHeartbeats 4000000 in
theorem refParams_any (e : Ex) (cs : List Value) (w : World) (h : ExAt w w.heap.size e cs) (hz : size e ≤ 1000) :
    Calls Tryz.prog 41 #[.agg cs.toArray] w fun x w' => x = .returned (.int .i64 (parE 0 e)) ∧ Below w.heap.size w w' := by
  have hcs := h
  obtain ⟨k, o, vk, vn, vs, nm, kids⟩ := e
  obtain ⟨A, kn, c, rfl, -⟩ := ex_open h
  obtain ⟨e, he⟩ : ∃ e, Ex.mk k o vk vn vs nm kids = e := ⟨_, rfl⟩
  rw [he] at hcs hz ⊢
  clear he h
  obtain ⟨V, hV⟩ : ∃ W1, w.alloc (.cells #[.int .i64 k, .int .i64 o, .int .i64 vk, .int .i64 vn, .string (txt vs), .string (txt nm), .slice A kn c] tE) = W1 := ⟨_, rfl⟩
  have hb : Below w.heap.size w V := by rw [← hV]; exact al (Below.refl _ _) _
  have hbox : Cel V w.heap.size tE #[.int .i64 k, .int .i64 o, .int .i64 vk, .int .i64 vn, .string (txt vs), .string (txt nm), .slice A kn c] := by rw [← hV]; exact Cel.new w tE _ rfl
  have y0 : V.cell? ⟨w.heap.size, 0, none⟩ = some (.int .i64 k) := hbox.at_ 0
  have y1 : V.cell? ⟨w.heap.size, 1, none⟩ = some (.int .i64 o) := hbox.at_ 1
  have y2 : V.cell? ⟨w.heap.size, 2, none⟩ = some (.int .i64 vk) := hbox.at_ 2
  have y3 : V.cell? ⟨w.heap.size, 3, none⟩ = some (.int .i64 vn) := hbox.at_ 3
  have y4 : V.cell? ⟨w.heap.size, 4, none⟩ = some (.string (txt vs)) := hbox.at_ 4
  have y5 : V.cell? ⟨w.heap.size, 5, none⟩ = some (.string (txt nm)) := hbox.at_ 5
  have y6 : V.cell? ⟨w.heap.size, 6, none⟩ = some (.slice A kn c) := hbox.at_ 6
  have HP := Lib.hid (refParts_any w.heap.size e _ V (DtIn.below hcs hb) hb.size hz)
  have HB := Lib.hid hb
  have HNE := Lib.hid (show parE 0 e = parP (partsE e) from par_parts e 0)
  obtain ⟨P, hP⟩ : ∃ P, partsE e = P := ⟨_, rfl⟩
  obtain ⟨n, hn⟩ : ∃ n, size e = n := ⟨_, rfl⟩
  have HN := Lib.hid (show P.length = n from by rw [← hP, ← hn]; exact parts_len e)
  rw [hP] at HP HNE
  rw [hn] at HP hz
  clear hcs hb hbox hP hn
  go_enter Tryz.func41, Tryz.ntmps41
  go_wp2_with (go_at_call 42; (with_reducible refine HP.out.mono ?_); rintro e' w1 ⟨A1, c1, rfl, ho1, hb1⟩; have HK := Lib.hid (OwnT.kids ho1); have HB1 := Lib.hid (Mem.on HB.out hb1); have HLT := Lib.hid ho1.lt; have HSZ := Lib.hid hb1.size; clear ho1 hb1)
  clear y0 y1 y2 y3 y4 y5 y6 hV
  go_loopw [5, 4] (fun i u wr => ∃ (j : Nat) (z : Int), j ≤ n ∧ i = .int .i64 (j : Int) ∧ u = .int .i64 z ∧ Hid (z = parP (P.take j)) ∧ Hid (Below w1.heap.size w1 wr)) (fun i _ _ => n + 1 - (intOf i).toNat)
  case atStart => exact ⟨0, 0, Nat.zero_le _, rfl, rfl, Lib.hid rfl, Lib.hid (Below.refl _ _)⟩
  case round =>
    obtain ⟨j, z, hj, rfl, rfl, HZ, HT⟩ := hrel
    by_cases hlt : j < n
    · --<
      have tl : decide ((j : Int) < (n : Int)) = true := decide_eq_true (by omega)
      have tl2 : decide (j < n) = true := decide_eq_true hlt
      obtain ⟨y, hy⟩ := kid_some (l := P) (j := j) (by have := HN.out; omega)
      obtain ⟨k', o', vk', vn', vs', nm', ks', A', n', c', b, q, e', rfl, hbb, hn', c0, c1, c2, c3, c4, c5, c6, hin⟩ := kid_at HK.out hy
      have hb1 : b < w1.heap.size := by
        rcases hbb with h1 | h1
        · exact Nat.lt_of_lt_of_le h1 (Nat.le_trans HB.out.size HSZ.out)
        · exact (HLT.out b h1).2
      have d0 : wr.cell? ⟨b, q + j * 7, none⟩ = some (.int .i64 k') := (HT.out.cell (p := ⟨b, q + j * 7, none⟩) hb1).trans c0
      have d1 : wr.cell? ⟨b, q + j * 7 + 1, none⟩ = some (.int .i64 o') := (HT.out.cell (p := ⟨b, q + j * 7 + 1, none⟩) hb1).trans c1
      have hon := parP_on hy
      rw [e', ← HZ.out] at hon
      have HON := Lib.hid (show parP (P.take (j + 1)) = (if k' = 3 then max z o' else z) from hon)
      clear hin hn' e' hy hbb c0 c1 c2 c3 c4 c5 c6 hon hb1
      by_cases hk3 : k' = 3
      · subst hk3
        by_cases hg : z < o'
        · have tg : decide (z < o') = true := decide_eq_true hg
          have HF := Lib.hid (show o' = parP (P.take (j + 1)) from by rw [HON.out, if_pos rfl]; omega)
          clear hg
          go_wp2
          go_roundw
          case rel => exact ⟨j + 1, o', by omega, by go_num, rfl, HF, HT⟩
          case measure => simp [intOf]; omega
        · have tg : decide (z < o') = false := decide_eq_false hg
          have HF := Lib.hid (show z = parP (P.take (j + 1)) from by rw [HON.out, if_pos rfl]; omega)
          clear hg
          go_wp2
          go_roundw
          case rel => exact ⟨j + 1, z, by omega, by go_num, rfl, HF, HT⟩
          case measure => simp [intOf]; omega
      · have tk : (k' == 3) = false := beq_no hk3
        have HF := Lib.hid (show z = parP (P.take (j + 1)) from by rw [HON.out, if_neg hk3])
        go_wp2
        go_roundw
        case rel => exact ⟨j + 1, z, by omega, by go_num, rfl, HF, HT⟩
        case measure => simp [intOf]; omega
      -->
    · have tl : decide ((j : Int) < (n : Int)) = false := decide_eq_false (by omega)
      have tl2 : decide (j < n) = false := decide_eq_false hlt
      have h1 := HZ.out
      rw [List.take_of_length_le (by have := HN.out; omega), ← HNE.out] at h1
      have HF := Lib.hid h1
      clear h1
      go_wp2
      go_ret
      exact ⟨by rw [← HF.out]; rfl, HB1.out.trans (HT.out.mono HB1.out.size)⟩
end Go.Proofs.YtbdippgamlknbaaGreatDoor.Tk
namespace Go.Proofs.YtbdippgamlknbaaGreatDoor.Ep
open Go.ChangeShapes Go.WideShapes Go.ChangeAt Go.RowKit Go.Proofs.YtbdippgamlknbaaGreatDoor.Mem Go.Proofs.YtbdippgamlknbaaGreatDoor.Right
set_option linter.unusedVariables false
/-- How this program has expressions. -/
theorem hasEx : HasEx Tryz.prog 26 23 24 where
  ex := ⟨_, _, _, _, _, Tryz.underlying26, ⟨rfl, rfl, rfl, rfl, rfl⟩, rfl, rfl, ⟨Tryz.underlying3, by kernel_rfl⟩, ⟨Tryz.underlying3, by kernel_rfl⟩, ⟨Tryz.underlying9, by kernel_rfl⟩⟩
  val := ⟨_, _, _, Tryz.underlying23, ⟨rfl, rfl, rfl⟩, ⟨Tryz.underlying3, by kernel_rfl⟩, ⟨Tryz.underlying3, by kernel_rfl⟩, ⟨Tryz.underlying9, by kernel_rfl⟩⟩
  list := Tryz.underlying24
  size := ⟨by kernel_rfl, by kernel_rfl, by kernel_rfl⟩
section
variable {H : Type} {enc : TypeId × Value → H} {W : World}
set_option maxRecDepth 100000 in
theorem open_exv {r : Reach} {b0 : Nat} {v : Value} {d : DataW H} {p : List MemPlace} (hv : Value.okWide Tryz.prog W r b0 26 v) (h : DataW.Trod enc Tryz.prog W 0 (fun _ => true) true 26 v d p) :
    ∃ cs e, v = .agg (List.toArray cs) ∧ ExAt W W.heap.size e cs ∧ Fine e := by
  obtain ⟨cs, rfl, hsz⟩ := okWide_struct Tryz.underlying26 hv
  obtain ⟨fuel, hf⟩ := h
  obtain ⟨e, h1, h2⟩ := open_ex hasEx fuel cs.toList _ hf
  exact ⟨cs.toList, e, rfl, h1, h2⟩
end
end Go.Proofs.YtbdippgamlknbaaGreatDoor.Ep
