/- The columns that a tree names: the program's call (expr.Names). -/
import Derived.Lib.MinMax
import Derived.Test.YtcblddpapehdeaaDoorM12
import Derived.Test.YtcblddpapehdeaaDoorM13
import Derived.Test.YtcblddpapehdeaaDoorM22
namespace Go.Proofs.YtcblddpapehdeaaDoor.Tk
open Go.RowKit Go.Proofs.YtcblddpapehdeaaDoor.Mem Go.Proofs.YtcblddpapehdeaaDoor.Ep Go.Proofs.YtcblddpapehdeaaDoor.Right Go.Maps
set_option linter.unusedVariables false
/-- What a walk for names leaves: all below B, and all trees. -/
structure NFr (B : Nat) (w w' : World) : Prop where
  low : Below B w w'
  ex : ∀ (b : Nat) (cs : Array Value) (fr : Nat × Nat), w.heap[b]? = some (.cells cs tE fr) → w'.heap[b]? = some (.cells cs tE fr)
section
variable {B : Nat} {w a b : World}
theorem NFr.trans (h : NFr B w a) (k : NFr B a b) : NFr B w b := ⟨h.low.trans k.low, fun j cs fr g => k.ex j cs fr (h.ex j cs fr g)⟩
theorem NFr.of (h : Below w.heap.size w a) (hB : B ≤ w.heap.size) : NFr B w a := ⟨h.mono hB, fun j cs fr g => (h.block j (blk_lt g)).trans g⟩
theorem NFr.grown {r : Option Nat} (hg : w.grownBy a r) (hB : B ≤ w.heap.size) (hr : ∀ k, r = some k → B ≤ k ∧ ∀ (cs : Array Value) (fr : Nat × Nat), w.heap[k]? ≠ some (.cells cs tE fr)) : NFr B w a :=
  ⟨⟨hg.os, hg.tape, hg.output, hg.size, fun j hj => hg.block j (by omega) (fun e => by have := (hr j e.symm).1; omega)⟩, fun j cs fr g => (hg.block j (blk_lt g) (fun e => (hr j e.symm).2 cs fr g)).trans g⟩
theorem NFr.cel {g : Nat} {cs : Array Value} (h : NFr B w a) (hc : Cel w g tE cs) : Cel a g tE cs := h.ex g cs _ hc
end
/-- The names so far: in the box pn a list of the call's own, in the box pm a set of these. -/
structure NmS (B pn pm g : Nat) (L : List Bs) (w : World) : Prop where
  m : Cel w pm tSet #[.map (some g)]
  r : ∃ v, Cel w pn tSl #[v] ∧ w.ownsRow B tS 1 v L.length (L.map str)
  o : w.ownsMap Tryd.prog tS unitElem g L.length (SetD L)
  lo : B ≤ pn ∧ B ≤ pm ∧ B ≤ g
section
variable {B pn pm g : Nat} {L : List Bs} {w w' : World}
theorem row_blk {v : Value} {n : Nat} {xs : List Value} (h : w.ownsRow B tS 1 v n xs) {k : Nat} (hk : v.ownBlock = some k) : ∃ cs, w.heap[k]? = some (.cells cs tS (0, 0)) := by
  rcases h.2 with ⟨rfl, _⟩ | ⟨g, cap, cur, rfl, _, hb, _⟩
  · simp [Value.ownBlock] at hk
  · obtain rfl : g = k := by simpa [Value.ownBlock] using hk
    exact ⟨cur, hb⟩
theorem own_slice {e : TypeId} {s : Nat} {v : Value} {n : Nat} {xs : List Value} (h : w.ownsRow B e s v n xs) : ∃ A c, v = .slice A n c := by
  rcases h.2 with ⟨hv, h0⟩ | ⟨g, cap, cur, hv, _⟩
  · exact ⟨none, 0, by rw [hv, h0]⟩
  · exact ⟨_, _, hv⟩
theorem map_blk {n : Nat} {D : DataW Unit} (h : w.ownsMap Tryd.prog tS unitElem g n D) : ∃ es c, w.heap[g]? = some (.map es c) := by
  obtain ⟨es, c, hb, _⟩ := h
  exact ⟨es, c, hb⟩
theorem row_ne {v : Value} {n : Nat} {xs : List Value} (h : w.ownsRow B tS 1 v n xs) {k : Nat} {t : TypeId} {cs : Array Value} (hc : Cel w k t cs) (ht : t ≠ tS) : v.ownBlock ≠ some k := fun e => by
  obtain ⟨cs', h'⟩ := row_blk h e
  have := hc.symm.trans h'
  injection this with e2
  injection e2 with _ e3
  exact ht e3
theorem row_nem {v : Value} {n : Nat} {xs : List Value} (h : w.ownsRow B tS 1 v n xs) {k m : Nat} {D : DataW Unit} (hm : w.ownsMap Tryd.prog tS unitElem k m D) : v.ownBlock ≠ some k := fun e => by
  obtain ⟨cs', h'⟩ := row_blk h e
  obtain ⟨es, c, hb⟩ := map_blk hm
  have := hb.symm.trans h'
  cases this
theorem cel_nem {k m : Nat} {t : TypeId} {cs : Array Value} {D : DataW Unit} (hc : Cel w k t cs) (hm : w.ownsMap Tryd.prog tS unitElem g m D) : k ≠ g := fun e => by
  subst e
  obtain ⟨es, c, hb⟩ := map_blk hm
  have := hb.symm.trans hc
  cases this
theorem NmS.below (h : NmS B pn pm g L w) (hb : Below w.heap.size w w') : NmS B pn pm g L w' := by
  obtain ⟨v, h1, h2⟩ := h.r
  have hg := grown_below (r := none) hb
  refine ⟨h.m.below hb, ⟨v, h1.below hb, h2.kept hg ?_⟩, h.o.kept hg (by simp), h.lo⟩
  cases hv : v.ownBlock with
  | none => exact .inl rfl
  | some k => exact .inr (by simp)
theorem NmS.size (h : NmS B pn pm g L w) : B ≤ w.heap.size := by have h1 := h.m.lt; have h2 := h.lo.2.1; omega
theorem cel_grown {k : Nat} {t : TypeId} {cs : Array Value} {r : Option Nat} (h : Cel w k t cs) (hg : w.grownBy w' r) (hk : some k ≠ r) : Cel w' k t cs := (hg.block k h.lt hk).trans h
/-- The set has turned. -/
theorem NmS.put {W : World} {s : Bs} {v : Value} (h : NmS B pn pm g L w) (h1 : Cel w pn tSl #[v]) (h2 : w.ownsRow B tS 1 v L.length (L.map str)) (hg : w.grownBy W (some g)) : Cel W pm tSet #[.map (some g)] ∧ Cel W pn tSl #[v] ∧ W.ownsRow B tS 1 v L.length (L.map str) ∧ NFr B w W :=
  ⟨cel_grown h.m hg (fun e => cel_nem h.m h.o (by injection e)), cel_grown h1 hg (fun e => cel_nem h1 h.o (by injection e)), h2.kept hg (.inr (row_nem h2 h.o)), NFr.grown hg h.size fun k e => by
    injection e with e
    subst e
    refine ⟨h.lo.2.2, fun cs fr e => ?_⟩
    obtain ⟨es, c, hb⟩ := map_blk h.o
    rw [hb] at e
    cases e⟩
theorem NmS.all {W1 W2 : World} {s : Bs} {v v' : Value} {D : DataW Unit} (hlo : B ≤ pn ∧ B ≤ pm ∧ B ≤ g) (hD : D = SetD (L ++ [s])) (m1 : Cel W1 pm tSet #[.map (some g)]) (n1 : Cel W1 pn tSl #[v]) (r1 : W1.ownsRow B tS 1 v L.length (L.map str)) (o1 : W1.ownsMap Tryd.prog tS unitElem g (L.length + 1) D)
    (r2 : W2.ownsRow B tS 1 v' (L.length + 1) (L.map str ++ [str s])) (hg : (W1.alloc (.cells #[str s] tS)).grownBy W2 v.ownBlock) (hv : v'.ownBlock = v.ownBlock ∨ v'.ownBlock = some (W1.alloc (.cells #[str s] tS)).heap.size) :
    (Cel W2 pn tSl #[v]) ∧ NmS B pn pm g (L ++ [s]) (W2.setCell ⟨pn, 0, none⟩ v') ∧ NFr B W1 (W2.setCell ⟨pn, 0, none⟩ v') := by
  have hb := al (Below.refl W1.heap.size W1) (.cells #[str s] tS)
  have hB : B ≤ W1.heap.size := by have := n1.lt; omega
  have nv := row_ne r1 n1 (by decide)
  have mv := row_ne r1 m1 (by decide)
  have ov := row_nem r1 o1
  have n2 : Cel W2 pn tSl #[v] := cel_grown (n1.below hb) hg (fun e => nv e.symm)
  have m2 : Cel W2 pm tSet #[.map (some g)] := cel_grown (m1.below hb) hg (fun e => mv e.symm)
  have o2 : W2.ownsMap Tryd.prog tS unitElem g (L.length + 1) D := (o1.alloc _).kept hg (fun e => ov e.symm)
  have npm : pn ≠ pm := fun e => by
    subst e
    have := m1.symm.trans n1
    injection this with e2
    injection e2 with _ e3
    exact absurd e3 (by decide)
  have nv' : v'.ownBlock ≠ some pn := by
    rcases hv with e | e
    · rw [e]; exact nv
    · rw [e]
      intro e2
      injection e2 with e2
      have := n1.lt
      have := hb.size
      omega
  have hset := n2.set 0 v'
  refine ⟨n2, ⟨m2.other npm 0 v', ⟨v', hset, ?_⟩, ?_, hlo⟩, ?_⟩
  · rw [List.length_append, List.map_append]
    exact ownsRow_setCell_other r2 nv' _
  · rw [List.length_append, ← hD]
    exact o2.setCell (fun e => cel_nem n2 o2 e.symm) _
  · refine ((NFr.of hb hB).trans (NFr.grown hg (Nat.le_trans hB hb.size) fun k e => ?_)).trans (NFr.grown (grown_set v') (by have := n2.lt; omega) fun k e => ?_)
    · refine ⟨(r1.lt k e).1, fun cs fr e2 => ?_⟩
      obtain ⟨cs', h'⟩ := row_blk (r1.kept (grown_below (r := none) hb) (.inr (by rw [e]; simp))) e
      rw [h'] at e2
      injection e2 with e2
      injection e2 with _ e3
      exact absurd e3 (by decide)
    · injection e with e
      subst e
      refine ⟨hlo.1, fun cs fr e2 => ?_⟩
      rw [show W2.heap[pn]? = _ from n2] at e2
      injection e2 with e2
      injection e2 with _ e3
      exact absurd e3 (by decide)
end
set_option maxRecDepth 20000 in
set_option maxHeartbeats 2000000 in
theorem seenN_any (B pn pm g : Nat) (L : List Bs) (k o vk vn : Int) (vs : ByteArray) (nm : Bs) (A : Option Addr) (n c : Nat) (d : Int) (w : World) (h : NmS B pn pm g L w) (hL : L.length ≤ 10000) (hnm : nm.length ≤ 1000000) :
    Calls Tryd.prog 126 #[exV k o vk vn vs (txt nm) A n c, .int .i64 d, .pointer (some ⟨pm, 0, none⟩), .pointer (some ⟨pn, 0, none⟩)] w fun e w' => e = .returned (.bool true) ∧ NmS B pn pm g ((ownN k nm).foldl addN L) w' ∧ NFr B w w' := by
  have hsz := h.size
  obtain ⟨V, hV⟩ : ∃ W1, w.alloc (.cells #[.int .i64 k, .int .i64 o, .int .i64 vk, .int .i64 vn, .string vs, .string (txt nm), .slice A n c] tE) = W1 := ⟨_, rfl⟩
  have hb : Below w.heap.size w V := by rw [← hV]; exact al (Below.refl _ _) _
  have hbx : Cel V w.heap.size tE #[.int .i64 k, .int .i64 o, .int .i64 vk, .int .i64 vn, .string vs, .string (txt nm), .slice A n c] := by rw [← hV]; exact Cel.new _ _ _ rfl
  obtain ⟨U, hU⟩ : ∃ W1, V.alloc (.cells #[] tUnit) = W1 := ⟨_, rfl⟩
  have hb2 : Below V.heap.size V U := by rw [← hU]; exact al (Below.refl _ _) _
  have hV1 := h.below hb
  have hU1 := hV1.below hb2
  obtain ⟨v, hv1, hv2⟩ := hU1.r
  obtain ⟨A1, a1, rfl⟩ := own_slice hv2
  have p0 := hbx.at_ 0
  have p5 := hbx.at_ 5
  have q0 := (hbx.below hb2).at_ 0
  have q5 := (hbx.below hb2).at_ 5
  have m0 := hV1.m.at_ 0
  have m1 := hU1.m.at_ 0
  have HM := Lib.hid hV1.o
  have HK := Lib.hid (txt_key nm (Nat.le_trans hnm (by unfold maxLen; omega)))
  have HU := Lib.hid hU1
  have H1 := Lib.hid hv1
  have H2 := Lib.hid hv2
  have HF := Lib.hid ((NFr.of (B := B) hb hsz).trans (NFr.of hb2 (Nat.le_trans hsz hb.size)))
  have HBX := Lib.hid (hbx.below hb2)
  obtain ⟨q, hq⟩ : ∃ q, Maps.has (SetD L) (.string nm) = q := ⟨_, rfl⟩
  have HQ := Lib.hid (show decide (nm ∈ L) = q from by rw [← has_setD]; exact hq)
  have HLN := Lib.hid hL
  clear h hb hbx hb2 hV1 hU1 hv1 hv2 hsz hnm hL
  by_cases hk : k = 2
  · subst hk
    have HN := Lib.hid (show (ownN 2 nm).foldl addN L = cond q L (L ++ [nm]) from by
      show addN L nm = _
      unfold addN
      rw [← HQ.out]
      by_cases hm : nm ∈ L
      · rw [if_pos hm, decide_eq_true hm]; rfl
      · rw [if_neg hm, decide_eq_false hm]; rfl)
    cases q with
    | true =>
      go_enter Tryd.func126, Tryd.ntmps126
      go_wp2_with (first | (at_lookup; refine wpList_lookup_own_unit _ rfl _ _ tSet rfl tS tUnit lawS Tryd.underlying148 (zeroU _) g _ _ rfl HM.out _ _ rfl HK.out ?_; rw [hq]) | go_in)
      go_ret
      exact ⟨rfl, by rw [HN.out]; exact HU.out, HF.out⟩
    | false =>
      go_enter Tryd.func126, Tryd.ntmps126
      go_wp2_with (first | (at_lookup; refine wpList_lookup_own_unit _ rfl _ _ tSet rfl tS tUnit lawS Tryd.underlying148 (zeroU _) g _ _ rfl HM.out _ _ rfl HK.out ?_; rw [hq]) | (at_mapUpdate; refine wpList_mapUpdate_own _ rfl _ _ _ tSet rfl tS tUnit lawS Tryd.underlying148 (unitElem (H := Unit)) g _ _ rfl HU.out.o (by have := HLN.out; unfold maxLen; omega) _ _ _ rfl rfl HK.out _ [] unitElem_mk ?_; intro w1 hown1 hgrow1; have HO1 := Lib.hid hown1; have HP := Lib.hid (HU.out.put (s := nm) H1.out H2.out hgrow1); have n1 := HP.out.2.1.at_ 0; have r5 := (HP.out.2.2.2.cel HBX.out).at_ 5; clear hown1 hgrow1) | (at_builtin; refine wp_one (x := str nm) elemS B (.tmp 27) (.tmp 30) rfl rfl rfl HP.out.2.2.1 rfl rfl (by have := HLN.out; omega) (by have := HLN.out; omega) (by have h1 := HP.out.2.1.lt; have h2 := HU.out.lo.1; omega) ?_; intro v2 w2 g1 g2 g3; obtain ⟨A2, c2, rfl⟩ := own_slice g1; have HD := Lib.hid (NmS.all HU.out.lo (setD_on L nm).symm HP.out.1 HP.out.2.1 HP.out.2.2.1 HO1.out g1 g2 g3); have n2 := HD.out.1.at_ 0; have f2 := HD.out.1.open_ 0; clear g1 g2 g3) | go_in)
      go_ret
      exact ⟨rfl, by rw [HN.out]; exact HD.out.2.1, (HF.out.trans HP.out.2.2.2).trans HD.out.2.2⟩
  · have HN := Lib.hid (show (ownN k nm).foldl addN L = L from by unfold ownN; rw [if_neg hk]; rfl)
    go_enter Tryd.func126, Tryd.ntmps126
    go_wp2_with (first | (at_lookup; refine wpList_lookup_own_unit _ rfl _ _ tSet rfl tS tUnit lawS Tryd.underlying148 (zeroU _) g _ _ rfl HM.out _ _ rfl HK.out ?_; rw [hq]) | go_in)
    go_ret
    exact ⟨rfl, by rw [HN.out]; exact HU.out, HF.out⟩
end Go.Proofs.YtcblddpapehdeaaDoor.Tk
