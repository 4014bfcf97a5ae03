/- The columns that a tree names: the program's call (expr.Names). The columns that a tree names: the walk (expr.walk, expr.Names). -/
import Derived.Lib.MinMax
import Derived.Test.YtcblddpapehdeaaDoorC14
import Derived.Test.YtcblddpapehdeaaDoorC15
import Derived.Test.YtcblddpapehdeaaDoorC20
namespace Go.Proofs.YtcblddpapehdeaaDoor.Tk
open Go.RowKit Go.Proofs.YtcblddpapehdeaaDoor.Mem Go.Proofs.YtcblddpapehdeaaDoor.Ep Go.Proofs.YtcblddpapehdeaaDoor.Right Go.Maps
set_option linter.unusedVariables false
/-- What a walk for names leaves: all below B, and all trees. -/
structure NFr (B : Nat) (w w' : World) : Prop where
  low : Below B w w'
  ex : ∀ (b : Nat) (cs : Array Value) (fr : Nat × Nat), w.heap[b]? = some (.cells cs tE fr) → w'.heap[b]? = some (.cells cs tE fr)
section
variable {B : Nat} {w a b : World}
theorem NFr.trans (h : NFr B w a) (k : NFr B a b) : NFr B w b := ⟨h.low.trans k.low, fun j cs fr g => k.ex j cs fr (h.ex j cs fr g)⟩
theorem NFr.of (h : Below w.heap.size w a) (hB : B ≤ w.heap.size) : NFr B w a := ⟨h.mono hB, fun j cs fr g => (h.block j (blk_lt g)).trans g⟩
theorem NFr.grown {r : Option Nat} (hg : w.grownBy a r) (hB : B ≤ w.heap.size) (hr : ∀ k, r = some k → B ≤ k ∧ ∀ (cs : Array Value) (fr : Nat × Nat), w.heap[k]? ≠ some (.cells cs tE fr)) : NFr B w a :=
  ⟨⟨hg.os, hg.tape, hg.output, hg.size, fun j hj => hg.block j (by omega) (fun e => by have := (hr j e.symm).1; omega)⟩, fun j cs fr g => (hg.block j (blk_lt g) (fun e => (hr j e.symm).2 cs fr g)).trans g⟩
theorem NFr.cel {g : Nat} {cs : Array Value} (h : NFr B w a) (hc : Cel w g tE cs) : Cel a g tE cs := h.ex g cs _ hc
end
/-- The names so far: in the box pn a list of the call's own, in the box pm a set of these. -/
structure NmS (B pn pm g : Nat) (L : List Bs) (w : World) : Prop where
  m : Cel w pm tSet #[.map (some g)]
  r : ∃ v, Cel w pn tSl #[v] ∧ w.ownsRow B tS 1 v L.length (L.map str)
  o : w.ownsMap Tryd.prog tS unitElem g L.length (SetD L)
  lo : B ≤ pn ∧ B ≤ pm ∧ B ≤ g
section
variable {B pn pm g : Nat} {L : List Bs} {w w' : World}
theorem row_blk {v : Value} {n : Nat} {xs : List Value} (h : w.ownsRow B tS 1 v n xs) {k : Nat} (hk : v.ownBlock = some k) : ∃ cs, w.heap[k]? = some (.cells cs tS (0, 0)) := by
  rcases h.2 with ⟨rfl, _⟩ | ⟨g, cap, cur, rfl, _, hb, _⟩
  · simp [Value.ownBlock] at hk
  · obtain rfl : g = k := by simpa [Value.ownBlock] using hk
    exact ⟨cur, hb⟩
theorem own_slice {e : TypeId} {s : Nat} {v : Value} {n : Nat} {xs : List Value} (h : w.ownsRow B e s v n xs) : ∃ A c, v = .slice A n c := by
  rcases h.2 with ⟨hv, h0⟩ | ⟨g, cap, cur, hv, _⟩
  · exact ⟨none, 0, by rw [hv, h0]⟩
  · exact ⟨_, _, hv⟩
theorem map_blk {n : Nat} {D : DataW Unit} (h : w.ownsMap Tryd.prog tS unitElem g n D) : ∃ es c, w.heap[g]? = some (.map es c) := by
  obtain ⟨es, c, hb, _⟩ := h
  exact ⟨es, c, hb⟩
theorem row_ne {v : Value} {n : Nat} {xs : List Value} (h : w.ownsRow B tS 1 v n xs) {k : Nat} {t : TypeId} {cs : Array Value} (hc : Cel w k t cs) (ht : t ≠ tS) : v.ownBlock ≠ some k := fun e => by
  obtain ⟨cs', h'⟩ := row_blk h e
  have := hc.symm.trans h'
  injection this with e2
  injection e2 with _ e3
  exact ht e3
theorem row_nem {v : Value} {n : Nat} {xs : List Value} (h : w.ownsRow B tS 1 v n xs) {k m : Nat} {D : DataW Unit} (hm : w.ownsMap Tryd.prog tS unitElem k m D) : v.ownBlock ≠ some k := fun e => by
  obtain ⟨cs', h'⟩ := row_blk h e
  obtain ⟨es, c, hb⟩ := map_blk hm
  have := hb.symm.trans h'
  cases this
theorem cel_nem {k m : Nat} {t : TypeId} {cs : Array Value} {D : DataW Unit} (hc : Cel w k t cs) (hm : w.ownsMap Tryd.prog tS unitElem g m D) : k ≠ g := fun e => by
  subst e
  obtain ⟨es, c, hb⟩ := map_blk hm
  have := hb.symm.trans hc
  cases this
theorem NmS.below (h : NmS B pn pm g L w) (hb : Below w.heap.size w w') : NmS B pn pm g L w' := by
  obtain ⟨v, h1, h2⟩ := h.r
  have hg := grown_below (r := none) hb
  refine ⟨h.m.below hb, ⟨v, h1.below hb, h2.kept hg ?_⟩, h.o.kept hg (by simp), h.lo⟩
  cases hv : v.ownBlock with
  | none => exact .inl rfl
  | some k => exact .inr (by simp)
theorem NmS.size (h : NmS B pn pm g L w) : B ≤ w.heap.size := by have h1 := h.m.lt; have h2 := h.lo.2.1; omega
theorem cel_grown {k : Nat} {t : TypeId} {cs : Array Value} {r : Option Nat} (h : Cel w k t cs) (hg : w.grownBy w' r) (hk : some k ≠ r) : Cel w' k t cs := (hg.block k h.lt hk).trans h
/-- The set has turned. -/
theorem NmS.put {W : World} {s : Bs} {v : Value} (h : NmS B pn pm g L w) (h1 : Cel w pn tSl #[v]) (h2 : w.ownsRow B tS 1 v L.length (L.map str)) (hg : w.grownBy W (some g)) : Cel W pm tSet #[.map (some g)] ∧ Cel W pn tSl #[v] ∧ W.ownsRow B tS 1 v L.length (L.map str) ∧ NFr B w W :=
  ⟨cel_grown h.m hg (fun e => cel_nem h.m h.o (by injection e)), cel_grown h1 hg (fun e => cel_nem h1 h.o (by injection e)), h2.kept hg (.inr (row_nem h2 h.o)), NFr.grown hg h.size fun k e => by
    injection e with e
    subst e
    refine ⟨h.lo.2.2, fun cs fr e => ?_⟩
    obtain ⟨es, c, hb⟩ := map_blk h.o
    rw [hb] at e
    cases e⟩
theorem NmS.all {W1 W2 : World} {s : Bs} {v v' : Value} {D : DataW Unit} (hlo : B ≤ pn ∧ B ≤ pm ∧ B ≤ g) (hD : D = SetD (L ++ [s])) (m1 : Cel W1 pm tSet #[.map (some g)]) (n1 : Cel W1 pn tSl #[v]) (r1 : W1.ownsRow B tS 1 v L.length (L.map str)) (o1 : W1.ownsMap Tryd.prog tS unitElem g (L.length + 1) D)
    (r2 : W2.ownsRow B tS 1 v' (L.length + 1) (L.map str ++ [str s])) (hg : (W1.alloc (.cells #[str s] tS)).grownBy W2 v.ownBlock) (hv : v'.ownBlock = v.ownBlock ∨ v'.ownBlock = some (W1.alloc (.cells #[str s] tS)).heap.size) :
    (Cel W2 pn tSl #[v]) ∧ NmS B pn pm g (L ++ [s]) (W2.setCell ⟨pn, 0, none⟩ v') ∧ NFr B W1 (W2.setCell ⟨pn, 0, none⟩ v') := by
  have hb := al (Below.refl W1.heap.size W1) (.cells #[str s] tS)
  have hB : B ≤ W1.heap.size := by have := n1.lt; omega
  have nv := row_ne r1 n1 (by decide)
  have mv := row_ne r1 m1 (by decide)
  have ov := row_nem r1 o1
  have n2 : Cel W2 pn tSl #[v] := cel_grown (n1.below hb) hg (fun e => nv e.symm)
  have m2 : Cel W2 pm tSet #[.map (some g)] := cel_grown (m1.below hb) hg (fun e => mv e.symm)
  have o2 : W2.ownsMap Tryd.prog tS unitElem g (L.length + 1) D := (o1.alloc _).kept hg (fun e => ov e.symm)
  have npm : pn ≠ pm := fun e => by
    subst e
    have := m1.symm.trans n1
    injection this with e2
    injection e2 with _ e3
    exact absurd e3 (by decide)
  have nv' : v'.ownBlock ≠ some pn := by
    rcases hv with e | e
    · rw [e]; exact nv
    · rw [e]
      intro e2
      injection e2 with e2
      have := n1.lt
      have := hb.size
      omega
  have hset := n2.set 0 v'
  refine ⟨n2, ⟨m2.other npm 0 v', ⟨v', hset, ?_⟩, ?_, hlo⟩, ?_⟩
  · rw [List.length_append, List.map_append]
    exact ownsRow_setCell_other r2 nv' _
  · rw [List.length_append, ← hD]
    exact o2.setCell (fun e => cel_nem n2 o2 e.symm) _
  · refine ((NFr.of hb hB).trans (NFr.grown hg (Nat.le_trans hB hb.size) fun k e => ?_)).trans (NFr.grown (grown_set v') (by have := n2.lt; omega) fun k e => ?_)
    · refine ⟨(r1.lt k e).1, fun cs fr e2 => ?_⟩
      obtain ⟨cs', h'⟩ := row_blk (r1.kept (grown_below (r := none) hb) (.inr (by rw [e]; simp))) e
      rw [h'] at e2
      injection e2 with e2
      injection e2 with _ e3
      exact absurd e3 (by decide)
    · injection e with e
      subst e
      refine ⟨hlo.1, fun cs fr e2 => ?_⟩
      rw [show W2.heap[pn]? = _ from n2] at e2
      injection e2 with e2
      injection e2 with _ e3
      exact absurd e3 (by decide)
end
set_option maxRecDepth 20000 in
set_option maxHeartbeats 2000000 in
theorem seenN_any (B pn pm g : Nat) (L : List Bs) (k o vk vn : Int) (vs : ByteArray) (nm : Bs) (A : Option Addr) (n c : Nat) (d : Int) (w : World) (h : NmS B pn pm g L w) (hL : L.length ≤ 10000) (hnm : nm.length ≤ 1000000) :
    Calls Tryd.prog 126 #[exV k o vk vn vs (txt nm) A n c, .int .i64 d, .pointer (some ⟨pm, 0, none⟩), .pointer (some ⟨pn, 0, none⟩)] w fun e w' => e = .returned (.bool true) ∧ NmS B pn pm g ((ownN k nm).foldl addN L) w' ∧ NFr B w w' := by
  have hsz := h.size
  obtain ⟨V, hV⟩ : ∃ W1, w.alloc (.cells #[.int .i64 k, .int .i64 o, .int .i64 vk, .int .i64 vn, .string vs, .string (txt nm), .slice A n c] tE) = W1 := ⟨_, rfl⟩
  have hb : Below w.heap.size w V := by rw [← hV]; exact al (Below.refl _ _) _
  have hbx : Cel V w.heap.size tE #[.int .i64 k, .int .i64 o, .int .i64 vk, .int .i64 vn, .string vs, .string (txt nm), .slice A n c] := by rw [← hV]; exact Cel.new _ _ _ rfl
  obtain ⟨U, hU⟩ : ∃ W1, V.alloc (.cells #[] tUnit) = W1 := ⟨_, rfl⟩
  have hb2 : Below V.heap.size V U := by rw [← hU]; exact al (Below.refl _ _) _
  have hV1 := h.below hb
  have hU1 := hV1.below hb2
  obtain ⟨v, hv1, hv2⟩ := hU1.r
  obtain ⟨A1, a1, rfl⟩ := own_slice hv2
  have p0 := hbx.at_ 0
  have p5 := hbx.at_ 5
  have q0 := (hbx.below hb2).at_ 0
  have q5 := (hbx.below hb2).at_ 5
  have m0 := hV1.m.at_ 0
  have m1 := hU1.m.at_ 0
  have HM := Lib.hid hV1.o
  have HK := Lib.hid (txt_key nm (Nat.le_trans hnm (by unfold maxLen; omega)))
  have HU := Lib.hid hU1
  have H1 := Lib.hid hv1
  have H2 := Lib.hid hv2
  have HF := Lib.hid ((NFr.of (B := B) hb hsz).trans (NFr.of hb2 (Nat.le_trans hsz hb.size)))
  have HBX := Lib.hid (hbx.below hb2)
  obtain ⟨q, hq⟩ : ∃ q, Maps.has (SetD L) (.string nm) = q := ⟨_, rfl⟩
  have HQ := Lib.hid (show decide (nm ∈ L) = q from by rw [← has_setD]; exact hq)
  have HLN := Lib.hid hL
  clear h hb hbx hb2 hV1 hU1 hv1 hv2 hsz hnm hL
  by_cases hk : k = 2
  · subst hk
    have HN := Lib.hid (show (ownN 2 nm).foldl addN L = cond q L (L ++ [nm]) from by
      show addN L nm = _
      unfold addN
      rw [← HQ.out]
      by_cases hm : nm ∈ L
      · rw [if_pos hm, decide_eq_true hm]; rfl
      · rw [if_neg hm, decide_eq_false hm]; rfl)
    cases q with
    | true =>
      go_enter Tryd.func126, Tryd.ntmps126
      go_wp2_with (first | (at_lookup; refine wpList_lookup_own_unit _ rfl _ _ tSet rfl tS tUnit lawS Tryd.underlying148 (zeroU _) g _ _ rfl HM.out _ _ rfl HK.out ?_; rw [hq]) | go_in)
      go_ret
      exact ⟨rfl, by rw [HN.out]; exact HU.out, HF.out⟩
    | false =>
      go_enter Tryd.func126, Tryd.ntmps126
      go_wp2_with (first | (at_lookup; refine wpList_lookup_own_unit _ rfl _ _ tSet rfl tS tUnit lawS Tryd.underlying148 (zeroU _) g _ _ rfl HM.out _ _ rfl HK.out ?_; rw [hq]) | (at_mapUpdate; refine wpList_mapUpdate_own _ rfl _ _ _ tSet rfl tS tUnit lawS Tryd.underlying148 (unitElem (H := Unit)) g _ _ rfl HU.out.o (by have := HLN.out; unfold maxLen; omega) _ _ _ rfl rfl HK.out _ [] unitElem_mk ?_; intro w1 hown1 hgrow1; have HO1 := Lib.hid hown1; have HP := Lib.hid (HU.out.put (s := nm) H1.out H2.out hgrow1); have n1 := HP.out.2.1.at_ 0; have r5 := (HP.out.2.2.2.cel HBX.out).at_ 5; clear hown1 hgrow1) | (at_builtin; refine wp_one (x := str nm) elemS B (.tmp 27) (.tmp 30) rfl rfl rfl HP.out.2.2.1 rfl rfl (by have := HLN.out; omega) (by have := HLN.out; omega) (by have h1 := HP.out.2.1.lt; have h2 := HU.out.lo.1; omega) ?_; intro v2 w2 g1 g2 g3; obtain ⟨A2, c2, rfl⟩ := own_slice g1; have HD := Lib.hid (NmS.all HU.out.lo (setD_on L nm).symm HP.out.1 HP.out.2.1 HP.out.2.2.1 HO1.out g1 g2 g3); have n2 := HD.out.1.at_ 0; have f2 := HD.out.1.open_ 0; clear g1 g2 g3) | go_in)
      go_ret
      exact ⟨rfl, by rw [HN.out]; exact HD.out.2.1, (HF.out.trans HP.out.2.2.2).trans HD.out.2.2⟩
  · have HN := Lib.hid (show (ownN k nm).foldl addN L = L from by unfold ownN; rw [if_neg hk]; rfl)
    go_enter Tryd.func126, Tryd.ntmps126
    go_wp2_with (first | (at_lookup; refine wpList_lookup_own_unit _ rfl _ _ tSet rfl tS tUnit lawS Tryd.underlying148 (zeroU _) g _ _ rfl HM.out _ _ rfl HK.out ?_; rw [hq]) | go_in)
    go_ret
    exact ⟨rfl, by rw [HN.out]; exact HU.out, HF.out⟩
end Go.Proofs.YtcblddpapehdeaaDoor.Tk
namespace Go.Proofs.YtcblddpapehdeaaDoor.Tk
open Go.RowKit Go.Proofs.YtcblddpapehdeaaDoor.Mem Go.Proofs.YtcblddpapehdeaaDoor.Ep Go.Proofs.YtcblddpapehdeaaDoor.Right
set_option linter.unusedVariables false
mutual
theorem cols_size : ∀ e : Ex, (colsE e).length ≤ size e
  | .mk k o vk vn vs nm kids => by
    have h := colsL_size kids
    rw [colsE, size, List.length_append]
    unfold ownN
    split <;> simp <;> omega
theorem colsL_size : ∀ l : List Ex, (colsL l).length ≤ sizeL l
  | [] => by rw [colsL]; simp
  | x :: l => by
    have h1 := cols_size x
    have h2 := colsL_size l
    rw [colsL, sizeL, List.length_append]
    omega
end
theorem names_len (e : Ex) : (namesE e).length ≤ size e := by
  have h1 := fold_len (colsE e) []
  have h2 := cols_size e
  unfold namesE
  simp at h1
  omega
set_option maxHeartbeats 4000000 in
theorem walkN_any (B pn pm g : Nat) : ∀ (e : Ex) (cs : List Value) (d : Nat) (L : List Bs) (w : World), ExAt w B e cs → NmS B pn pm g L w → Lim e → d + size e ≤ 1000000 → L.length + size e ≤ 10000 →
    Calls Tryd.prog 98 #[.agg cs.toArray, .int .i64 (d : Int), .func (.func 126) #[] #[.pointer (some ⟨pm, 0, none⟩), .pointer (some ⟨pn, 0, none⟩)]] w fun x w' => x = .returned (.bool true) ∧ NmS B pn pm g ((colsE e).foldl addN L) w' ∧ NFr B w w' := by
  refine Ex.byKids fun k o vk vn vs nm kids ih cs d L w h hc hlim hs hm => ?_
  obtain ⟨A, kn, c, rfl, hkn, -, -, -, hk⟩ := ex_open h
  obtain ⟨hvs, hnm, hlk⟩ := (lim_mk _ _ _ _ _ _ _).1 hlim
  rw [size] at hs hm
  rw [colsE_mk, List.foldl_append]
  have hsz := hc.size
  obtain ⟨V, hV⟩ : ∃ W1, w.alloc (.cells #[.int .i64 k, .int .i64 o, .int .i64 vk, .int .i64 vn, .string (txt vs), .string (txt nm), .slice A kn c] tE) = W1 := ⟨_, rfl⟩
  have hbv : Below w.heap.size w V := by rw [← hV]; exact al (Below.refl _ _) _
  have hbox : Cel V w.heap.size tE #[.int .i64 k, .int .i64 o, .int .i64 vk, .int .i64 vn, .string (txt vs), .string (txt nm), .slice A kn c] := by rw [← hV]; exact Cel.new w tE _ rfl
  obtain ⟨M, hM⟩ : ∃ M, (ownN k nm).foldl addN L = M := ⟨_, rfl⟩
  have hMl : M.length ≤ L.length + 1 := by
    have h1 := fold_len (ownN k nm) L
    rw [hM] at h1
    unfold ownN at h1
    split at h1 <;> simp at h1 <;> omega
  have HV := Lib.hid (hM ▸ seenN_any B pn pm g L k o vk vn (txt vs) nm A kn c d V (hc.below hbv) (by omega) hnm)
  rw [hM]
  have HX := Lib.hid (fun W (hW : NFr B V W) => (show W.cell? ⟨w.heap.size, 6, none⟩ = some (.slice A kn c) from (hW.cel hbox).at_ 6))
  have HB0 := Lib.hid (NFr.of hbv hsz)
  have HK := Lib.hid hk
  have HN := Lib.hid hkn
  have HSZ := Lib.hid (show d + (1 + sizeL kids) ≤ 1000000 ∧ L.length + (1 + sizeL kids) ≤ 10000 ∧ M.length ≤ L.length + 1 from ⟨by omega, by omega, hMl⟩)
  have HLK := Lib.hid hlk
  have y0 : V.cell? ⟨w.heap.size, 0, none⟩ = some (.int .i64 k) := hbox.at_ 0
  have y1 : V.cell? ⟨w.heap.size, 1, none⟩ = some (.int .i64 o) := hbox.at_ 1
  have y2 : V.cell? ⟨w.heap.size, 2, none⟩ = some (.int .i64 vk) := hbox.at_ 2
  have y3 : V.cell? ⟨w.heap.size, 3, none⟩ = some (.int .i64 vn) := hbox.at_ 3
  have y4 : V.cell? ⟨w.heap.size, 4, none⟩ = some (.string (txt vs)) := hbox.at_ 4
  have y5 : V.cell? ⟨w.heap.size, 5, none⟩ = some (.string (txt nm)) := hbox.at_ 5
  have y6 : V.cell? ⟨w.heap.size, 6, none⟩ = some (.slice A kn c) := hbox.at_ 6
  have hkm : kn ≤ 1000000 := by have := sizeL_len kids; omega
  have hd : d ≤ 1000000 := by omega
  clear hk h hkn hs hm hbv hM hc hbox hMl hsz hlim hvs hnm hlk
  go_enter Tryd.func98, Tryd.ntmps98
  go_wp2_with (go_at_call 126; (with_reducible refine HV.out.mono ?_); rintro e' w1 ⟨rfl, hc1, hb1⟩; have HC1 := Lib.hid hc1; have x6 := HX.out _ hb1; have HB1 := Lib.hid (HB0.out.trans hb1); have HX1 := Lib.hid (fun W (hW : NFr B w1 W) => HX.out W (hb1.trans hW)); clear hc1 hb1)
  clear x6 hV y0 y1 y2 y3 y4 y5 y6
  go_loopw [17] (fun i wr => ∃ (j : Nat), j ≤ kn ∧ i = .int .i64 (j : Int) ∧ Hid (NmS B pn pm g ((colsL (kids.take j)).foldl addN M) wr) ∧ Hid (NFr B w wr)) (fun i _ => kn + 1 - (intOf i).toNat)
  case atStart => exact ⟨0, Nat.zero_le _, rfl, Lib.hid (by rw [List.take_zero, colsL]; exact HC1.out), HB1⟩
  case round =>
    obtain ⟨j, hj, rfl, HC, HB⟩ := hrel
    by_cases hlt : j < kn
    · obtain ⟨y, hy⟩ := kid_some (l := kids) (j := j) (by have := HN.out; omega)
      obtain ⟨k', o', vk', vn', vs', nm', ks', A', n', c', b, q, e, rfl, hb, hn', c0, c1, c2, c3, c4, c5, c6, hin⟩ := kid_at HK.out hy
      have hsy : size y ≤ sizeL kids := sizeL_mem (kid_mem hy)
      have hsj : (colsL (kids.take j)).length + size y ≤ sizeL kids := by
        have h1 := colsL_size (kids.take j)
        have h2 : sizeL kids = sizeL (kids.take j) + sizeL (kids.drop j) := by
          have : ∀ a b : List Ex, sizeL (a ++ b) = sizeL a + sizeL b := fun a b => by
            induction a with
            | nil => rw [sizeL]; simp
            | cons x a ih => rw [List.cons_append, sizeL, sizeL, ih]; omega
          rw [← this, List.take_append_drop]
        rw [drop_kid hy, sizeL] at h2
        omega
      obtain ⟨L1, hL1⟩ : ∃ L1, (colsL (kids.take j)).foldl addN M = L1 := ⟨_, rfl⟩
      obtain ⟨L2, hL2⟩ : ∃ L2, (colsE y).foldl addN L1 = L2 := ⟨_, rfl⟩
      have hl1 : L1.length ≤ M.length + (colsL (kids.take j)).length := hL1 ▸ fold_len _ _
      have HI := Lib.hid (fun W (hW : NFr B w W) (hWc : NmS B pn pm g L1 W) => (show Calls Tryd.prog 98 #[exV k' o' vk' vn' (txt vs') (txt nm') A' n' c', .int .i64 ((d : Int) + 1), .func (.func 126) #[] #[.pointer (some ⟨pm, 0, none⟩), .pointer (some ⟨pn, 0, none⟩)]] W fun x w' => x = .returned (.bool true) ∧ NmS B pn pm g L2 w' ∧ NFr B W w' from by
        rw [← hL2]
        exact ih y (kid_mem hy) _ (d + 1) L1 W (ExAt.below hin hW.low) hWc (HLK.out y (kid_mem hy)) (by have := HSZ.out.1; omega) (by have := HSZ.out.2; omega)))
      have HT := Lib.hid (show L2 = (colsL (kids.take (j + 1))).foldl addN M by rw [← hL2, ← hL1]; exact take_cols hy M)
      rw [hL1] at HC
      have c0 := (HB.out.low.cell hb).trans c0
      have c1 := (HB.out.low.cell hb).trans c1
      have c2 := (HB.out.low.cell hb).trans c2
      have c3 := (HB.out.low.cell hb).trans c3
      have c4 := (HB.out.low.cell hb).trans c4
      have c5 := (HB.out.low.cell hb).trans c5
      have c6 := (HB.out.low.cell hb).trans c6
      have hbk := al (Below.refl wr.heap.size wr) (.cells #[.int .i64 k', .int .i64 o', .int .i64 vk', .int .i64 vn', .string (txt vs'), .string (txt nm'), .slice A' n' c'] tE)
      have HBk := Lib.hid (HB.out.trans (NFr.of hbk HC.out.size))
      have HCk := Lib.hid (HC.out.below hbk)
      have tl : decide ((j : Int) < (kn : Int)) = true := decide_eq_true (by omega)
      clear hin hn' e hy hL2 hL1 hsy hsj hl1 hbk
      go_wp2_with (go_at_call 98; (with_reducible refine (HI.out _ HBk.out HCk.out).mono ?_); rintro e' w2 ⟨rfl, hc2, hb2⟩; have HC2 := Lib.hid hc2; have HB2 := Lib.hid (HBk.out.trans hb2); clear hc2 hb2)
      go_roundw
      case rel => exact ⟨j + 1, by omega, by go_num, by rw [← HT.out]; exact HC2, HB2⟩
      case measure => simp [intOf]; omega
    · have tl : decide ((j : Int) < (kn : Int)) = false := decide_eq_false (by omega)
      have hd2 : kids.take j = kids := List.take_of_length_le (by have := HN.out; omega)
      rw [hd2] at HC
      go_wp2
      go_ret
      exact ⟨rfl, HC.out, HB.out⟩
theorem setD_nil : SetD [] = .map [] := rfl
set_option maxHeartbeats 2000000 in
theorem names_any (e : Ex) (cs : List Value) (w : World) (h : ExAt w w.heap.size e cs) (hl : Lim e) (hz : size e ≤ 1000) :
    Calls Tryd.prog 93 #[.agg cs.toArray] w (TxtD (namesE e) w) := by
  have hcs := h
  obtain ⟨k, o, vk, vn, vs, nm, kids⟩ := e
  obtain ⟨A, kn, c, rfl, -⟩ := ex_open h
  obtain ⟨e, he⟩ : ∃ e, Ex.mk k o vk vn vs nm kids = e := ⟨_, rfl⟩
  rw [he] at hcs hz hl ⊢
  clear he h
  obtain ⟨W4, hW4⟩ : ∃ W4, ((((w.alloc (.cells #[.int .i64 k, .int .i64 o, .int .i64 vk, .int .i64 vn, .string (txt vs), .string (txt nm), .slice A kn c] tE)).alloc (.cells #[.slice none 0 0] tSl)).alloc (.map #[] 0)).alloc (.cells #[.map (some (w.heap.size + 1 + 1))] tSet)) = W4 := ⟨_, rfl⟩
  have hb : Below w.heap.size w W4 := by rw [← hW4]; exact al (al (al (al (Below.refl _ _) _) _) _) _
  have hS : NmS w.heap.size (w.heap.size + 1) (w.heap.size + 1 + 1 + 1) (w.heap.size + 1 + 1) [] W4 := by
    rw [← hW4]
    refine ⟨Cel.new _ _ _ (by simp), ⟨.slice none 0 0, ((Cel.new _ _ _ (by simp)).alloc _).alloc _, ⟨rfl, .inl ⟨rfl, rfl⟩⟩⟩, ?_, by omega, by omega, by omega⟩
    refine World.ownsMap.alloc ?_ _
    have hm := World.ownsMap_made (R := unitElem (H := Unit)) ((w.alloc (.cells #[.int .i64 k, .int .i64 o, .int .i64 vk, .int .i64 vn, .string (txt vs), .string (txt nm), .slice A kn c] tE)).alloc (.cells #[.slice none 0 0] tSl)) Tryd.prog tS
    simpa [setD_nil] using hm
  have hx := walkN_any w.heap.size (w.heap.size + 1) (w.heap.size + 1 + 1 + 1) (w.heap.size + 1 + 1) e _ 1 [] W4 (ExIn.to (fun b hb' => hb') (fun q hq' => hb.cell hq') e _ hcs) hS hl (by omega) (by simp; omega)
  rw [show ((1 : Nat) : Int) = 1 from rfl] at hx
  have hbox : Cel W4 w.heap.size tE #[.int .i64 k, .int .i64 o, .int .i64 vk, .int .i64 vn, .string (txt vs), .string (txt nm), .slice A kn c] := by rw [← hW4]; exact (((Cel.new w tE _ rfl).alloc _).alloc _).alloc _
  have y0 : W4.cell? ⟨w.heap.size, 0, none⟩ = some (.int .i64 k) := hbox.at_ 0
  have y1 : W4.cell? ⟨w.heap.size, 1, none⟩ = some (.int .i64 o) := hbox.at_ 1
  have y2 : W4.cell? ⟨w.heap.size, 2, none⟩ = some (.int .i64 vk) := hbox.at_ 2
  have y3 : W4.cell? ⟨w.heap.size, 3, none⟩ = some (.int .i64 vn) := hbox.at_ 3
  have y4 : W4.cell? ⟨w.heap.size, 4, none⟩ = some (.string (txt vs)) := hbox.at_ 4
  have y5 : W4.cell? ⟨w.heap.size, 5, none⟩ = some (.string (txt nm)) := hbox.at_ 5
  have y6 : W4.cell? ⟨w.heap.size, 6, none⟩ = some (.slice A kn c) := hbox.at_ 6
  have HX := Lib.hid hx
  have HB := Lib.hid hb
  have hmm := @run_makeMap Tryd.prog
  clear hcs hb hS hx hz hl hbox
  go_enter Tryd.func93, Tryd.ntmps93
  go_wp2_with (go_at_call 98; (with_reducible refine HX.out.mono ?_); rintro e' w2 ⟨rfl, hc2, hb2⟩; obtain ⟨v2, hv2, hr2⟩ := hc2.r; obtain ⟨A2, a2, rfl⟩ := own_slice hr2; have z0 := hv2.at_ 0; have HR2 := Lib.hid hr2; have HB2 := Lib.hid (HB.out.trans hb2.low); clear hc2 hb2 hv2 hr2)
  go_ret
  exact ⟨A2, a2, rfl, HR2.out, HB2.out⟩
end Go.Proofs.YtcblddpapehdeaaDoor.Tk
