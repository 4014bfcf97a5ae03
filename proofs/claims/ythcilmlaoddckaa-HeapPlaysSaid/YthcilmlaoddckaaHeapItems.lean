/- The iterator over a heap's items: each slot that is not empty, with its data, by pages, then slots. -/
import Derived.Test.YthcilmlaoddckaaHeapEach
import Derived.Shelf.Abstract
import Derived.Shelf.RegionOpen
import Derived.OwnWalkIn
import Derived.TacticsInMore
import Derived.LoopNIn
import Derived.LoopIn
namespace Go.Proofs.Ythcilmlaoddckaa.Pg
open Go.RowKit Go.Proofs.Ythcilmlaoddckaa.Mem Go.Proofs.Ythcilmlaoddckaa.Right
set_option linter.unusedVariables false
attribute [local go_sem] Oper.semAt_some

/-- An item: page, slot, data. -/
structure It where
  p : Nat
  s : Nat
  d : List UInt8
def itOf (k : Nat) (S : List Sl) (s : Nat) : It := ⟨k, s, dat (sl S s)⟩
/-- The items of a page's first slots. -/
def itsN (k : Nat) (S : List Sl) (j : Nat) : List It := (slotsN S j).map (itOf k S)
def itsP (k : Nat) (S : List Sl) : List It := itsN k S S.length
def allN (L : List (List Sl)) : Nat → List It
  | 0 => []
  | k + 1 => allN L k ++ itsP k (pageOf L k)
def allH (L : List (List Sl)) : List It := allN L L.length
/-- An item as it is handed out: its data lie in v. -/
structure Iv where
  it : It
  v : Value
def ivv (x : Iv) : Value := .agg #[.int .i64 (x.it.p : Int), .int .i64 (x.it.s : Int), x.v]
/-- The items' data can be read, in blocks from Bn on. -/
def GI (Bn : Nat) (xs : List Iv) (W : World) : Prop := ∀ x ∈ xs, W.ownsRow Bn 5 1 x.v x.it.d.length (bys x.it.d)
/-- What a round keeps: what lay below n₀; from block Bn on the iterator's own variable, numbers and bytes. -/
def KI (n₀ Bn : Nat) (W W' : World) : Prop := Below n₀ W W' ∧ ∀ (j : Nat) (cs : Array Value) (t : TypeId) (fr : Nat × Nat), Bn ≤ j → (t = 23 ∨ t = 3 ∨ t = 5) → W.heap[j]? = some (.cells cs t fr) → W'.heap[j]? = some (.cells cs t fr)
theorem ki_t {n₀ Bn : Nat} {A B C : World} (h : KI n₀ Bn A B) (k : KI n₀ Bn B C) : KI n₀ Bn A C := ⟨h.1.trans k.1, fun j cs t fr hj ht hc => k.2 j cs t fr hj ht (h.2 j cs t fr hj ht hc)⟩
theorem ki_b {n₀ Bn : Nat} {w : World} (hn : n₀ ≤ w.heap.size) (W : World) (l : Nat) (o o' : Obj) (hl : w.heap.size ≤ l) (h : W.heap[l]? = some o) (hc : o.isCells = false) : KI n₀ Bn W (W.putObj l o') :=
  ⟨(Below.refl n₀ W).grown (grownBy_putObj' W l o') (by have := blk_lt h; omega) (fun k e => by cases e; omega), fun j cs t fr _ _ hu => by
    refine (World.putObj_heap_other (fun e => ?_)).trans hu
    subst e
    rw [h] at hu; cases hu; cases hc⟩
theorem ki_alloc {n₀ Bn : Nat} {W : World} (h : n₀ ≤ W.heap.size) (o : Obj) : KI n₀ Bn W (W.alloc o) :=
  ⟨(Below.refl _ _).alloc h o, fun j cs t fr _ _ hu => (Below.heap_alloc W o j (blk_lt hu)).trans hu⟩
theorem ki_set {n₀ Bn : Nat} (W : World) {b : Nat} (i : Nat) (v : Value) (h : n₀ ≤ b) (hb : b < Bn) : KI n₀ Bn W (W.setCell ⟨b, i, none⟩ v) :=
  ⟨(Below.refl _ _).setCell (p := ⟨b, i, none⟩) h v, fun j cs t fr hj _ hu => by
    show (W.heap.modify b _)[j]? = _
    rw [Array.getElem?_modify, if_neg (by omega)]; exact hu⟩
theorem row_ki {n₀ Bn base : Nat} {W W' : World} {e : TypeId} {size : Nat} {v : Value} {n : Nat} {us : List Value} (h : W.ownsRow base e size v n us) (hk : KI n₀ Bn W W') (hB : Bn ≤ base) (he : e = 23 ∨ e = 3 ∨ e = 5) : W'.ownsRow base e size v n us := by
  obtain ⟨h1, h2⟩ := h
  refine ⟨h1, ?_⟩
  rcases h2 with h2 | ⟨g, cap, cur, hv, hb, hh, rest⟩
  · exact .inl h2
  · exact .inr ⟨g, cap, cur, hv, hb, hk.2 g cur e _ (by omega) he hh, rest⟩
theorem row_blw {base : Nat} {W W' : World} {e : TypeId} {size : Nat} {v : Value} {n : Nat} {us : List Value} (h : W.ownsRow base e size v n us) (hk : Below W.heap.size W W') : W'.ownsRow base e size v n us := by
  obtain ⟨h1, h2⟩ := h
  refine ⟨h1, ?_⟩
  rcases h2 with h2 | ⟨g, cap, cur, hv, hb, hh, rest⟩
  · exact .inl h2
  · exact .inr ⟨g, cap, cur, hv, hb, (hk.block g (blk_lt hh)).trans hh, rest⟩
theorem GI.ki {n₀ Bn : Nat} {xs : List Iv} {W W' : World} (h : GI Bn xs W) (hk : KI n₀ Bn W W') : GI Bn xs W' := fun x hx => row_ki (h x hx) hk (Nat.le_refl _) (.inr (.inr rfl))
theorem GI.below {Bn : Nat} {xs : List Iv} {W W' : World} (h : GI Bn xs W) (hk : Below W.heap.size W W') : GI Bn xs W' := fun x hx => row_blw (h x hx) hk
theorem GI.snoc {Bn : Nat} {xs : List Iv} {x : Iv} {W : World} (h : GI Bn xs W) (hx : W.ownsRow Bn 5 1 x.v x.it.d.length (bys x.it.d)) : GI Bn (xs ++ [x]) W := fun y hy => by
  rcases List.mem_append.1 hy with hy | hy
  · exact h y hy
  · rw [List.mem_singleton] at hy; exact hy ▸ hx
theorem GI.nil (Bn : Nat) (W : World) : GI Bn [] W := fun x hx => by simp at hx
theorem slotsN_full {S : List Sl} : ∀ {j s : Nat}, s ∈ slotsN S j → full S s = true
  | 0, s, h => by simp [slotsN] at h
  | j + 1, s, h => by
    by_cases hf : full S j = true
    · rw [slotsN_yes hf] at h
      rcases List.mem_append.1 h with h | h
      · exact slotsN_full h
      · rw [List.mem_singleton] at h; exact h ▸ hf
    · rw [slotsN_no (by simpa using hf)] at h
      exact slotsN_full h
theorem get_full {S : List Sl} {s : Nat} (h : full S s = true) : getV S (s : Int) = (some (dat (sl S s)), 0) := by
  obtain ⟨d, hd⟩ := full_dat h
  unfold getV
  rw [if_pos (by omega), Int.toNat_natCast, hd]
  unfold sl
  rw [hd]; rfl
/-- Get of a slot that is not empty: its data in memory of the call's own. -/
theorem get_item (A : Option Addr) (c : Nat) (S : List Sl) (s : Nat) (w : World) (h : Good w A c S) (hf : full S s = true) :
    Calls Try.prog 29 #[.slice A 512 c, .int .i64 (s : Int)] w fun e w' => ∃ A' n' c', e = .returned (.tuple #[.slice A' n' c', .int .i64 0]) ∧ w'.ownsRow w.heap.size 5 1 (.slice A' n' c') (dat (sl S s)).length (bys (dat (sl S s))) ∧ Below w.heap.size w w' := by
  refine (get_any A c S s w h).mono ?_
  rw [get_full hf]
  rintro e w' ⟨v, rfl, hm⟩
  obtain ⟨A', n', c', rfl⟩ := made_slice hm
  exact ⟨A', n', c', rfl, hm.1, hm.2.1⟩
theorem ints_get {w : World} {base : Nat} {A : Option Addr} {n c k : Nat} {l : List Nat} (h : w.ownsRow base 3 1 (.slice A n c) n (ints l)) (hl : l.length = n) (hk : k < n) :
    ∃ b o s, A = some ⟨b, o, none⟩ ∧ l[k]? = some s ∧ w.cell? ⟨b, o + k, none⟩ = some (.int .i64 (s : Int)) := by
  have hs : l[k]? = some l[k] := List.getElem?_eq_getElem (by omega)
  obtain ⟨b, o, e, _, hc⟩ := Row.own h k (.int .i64 (l[k] : Int)) (by unfold ints; rw [List.getElem?_map, hs]; rfl)
  exact ⟨b, o, l[k], e, hs, hc⟩
theorem allN_pre (L : List (List Sl)) (k : Nat) : ∀ m, k ≤ m → allN L k <+: allN L m
  | 0, h => by
    obtain rfl : k = 0 := by omega
    exact List.prefix_refl _
  | m + 1, h => by
    by_cases e : k = m + 1
    · subst e; exact List.prefix_refl _
    · exact (allN_pre L k m (by omega)).trans (List.prefix_append _ _)
/-- What has come can be read, and begins the list of all items. -/
def GX (L : List (List Sl)) (Bn : Nat) (xs : List Iv) (W : World) : Prop := GI Bn xs W ∧ xs.map (fun x => x.it) <+: allH L
set_option maxRecDepth 100000 in
set_option maxHeartbeats 2000000 in
theorem items_in (n : Nat) (hn : 1 ≤ n) (l Bn nb B : Nat) (L : List (List Sl)) (w0 : World) (hH : HP w0 nb B L) (J : List Iv → World → Prop) (hJ : ∀ pre A C, J pre A → Below A.heap.size A C → J pre C)
    (hY : ∀ pre x W, J pre W → GX L Bn (pre ++ [x]) W → YieldAt Fence.wide (n - 1) Try.prog l #[ivv x] W fun e W' => e = .returned (.bool true) ∧ J (pre ++ [x]) W' ∧ KI w0.heap.size Bn W W')
    (W : World) (hBn : Boxed W Bn 23 (.pointer (some ⟨B, 0, none⟩))) (hB0 : w0.heap.size ≤ Bn) (hW : Below w0.heap.size w0 W) (h0 : J [] W) :
    CallsIn Fence.wide n Try.prog 43 #[.func (.yield l) #[] #[], .pointer (some ⟨Bn, 0, none⟩)] W fun e W' => (∃ v, e = .returned v) ∧ ∃ xs, xs.map (fun x => x.it) = allH L ∧ GX L Bn xs W' ∧ J xs W' := by
  obtain ⟨A, m, c, ⟨_, k1, _⟩, hcel, hp⟩ := hH.open_
  have hl := hp.len
  have y1 := ((hW.cell (p := ⟨B, 1, none⟩) hH.lt)).trans k1
  have HC := Lib.hid ((check_h nb B L W (hH.below hW)).mono fun e w' h => (⟨h.1, h.2.symm⟩ : e = _ ∧ W = w'))
  have hcB := hBn.cell
  have HPL := Lib.hid hp
  have HL := Lib.hid hl
  have hcm := hp.cap
  have hm64 : m ≤ 64 := by have := hH.ok.few; omega
  have HB0 := Lib.hid hW
  have HX0 := Lib.hid hBn
  clear hcel hp hH hW hBn k1
  refine callsIn_of_wp Try.func43 rfl trivial ?_ rfl
  simp only [Try.ntmps43, List.size_toArray, List.length_cons, List.length_nil, Nat.reduceAdd, Nat.reduceSub, Array.replicate_succ, Array.replicate_zero, List.push_toArray, List.append_toArray, List.nil_append, List.cons_append]
  gi_wp2_with (refine ⟨trivial, ?_⟩; gi_at_call 36; refine (callsIn_wide.2 HC.out).mono ?_; rintro e w1 ⟨rfl, rfl⟩)
  gi_loopw [17] (fun i wr => ∃ (k : Nat) (pre : List Iv), k ≤ m ∧ i = .int .i64 k ∧ Hid (pre.map (fun x => x.it) = allN L k) ∧ Hid (J pre wr) ∧ Hid (GI Bn pre wr) ∧ Hid (Below w0.heap.size w0 wr) ∧ Hid (Boxed wr Bn 23 (.pointer (some ⟨B, 0, none⟩)))) (fun i _ => m - (intOf i).toNat)
  case atStart => exact ⟨0, [], Nat.zero_le _, rfl, Lib.hid rfl, Lib.hid h0, Lib.hid (GI.nil _ _), HB0, HX0⟩
  case round =>
    obtain ⟨k, pre, hk, rfl, HM, HJ, HG, HB, HX⟩ := hrel
    by_cases hlt : k < m
    · obtain ⟨b, o, A', c', rfl, hb, c0, hg⟩ := (HPL.out.below HB.out).get hlt
      have hlt' : (k : Int) < (m : Int) := by omega
      have hgw := hg
      have HS := Lib.hid (slots_got A' c' (pageOf L k) wr hg)
      obtain ⟨b0, o0, A0, c00, e0, hb0, c000, hg0⟩ := HPL.out.get hlt
      have eA : A0 = A' ∧ c00 = c' := by
        injection e0 with e0
        injection e0 with e1 e2
        subst e1 e2
        have := ((HB.out.cell (p := ⟨b, o + k, none⟩) hb0).trans c000).symm.trans c0
        injection this with this
        injection this with q1 _ q3
        exact ⟨q1, q3⟩
      obtain ⟨rfl, rfl⟩ := eA
      have HG0 := Lib.hid hg0
      obtain ⟨S, hS⟩ : ∃ S, pageOf L k = S := ⟨_, rfl⟩
      rw [hS] at HS HG0
      obtain ⟨sl_, hsl⟩ : ∃ l' : List Nat, slotsN S S.length = l' := ⟨_, rfl⟩
      rw [hsl] at HS
      obtain ⟨r, hr⟩ : ∃ r, sl_.length = r := ⟨_, rfl⟩
      rw [hr] at HS
      have hr9 : r ≤ 1000 := by
        have h1 := slotsN_len S S.length
        have h2 := HG0.out.2.fit.room
        rw [hsl, hr] at h1
        omega
      have HSL := Lib.hid hsl
      have HSP := Lib.hid hS
      have HSR := Lib.hid hr
      have hBlt := HX.out.lt
      clear hg hgw hg0 hS hsl e0 hb0 c000
      gi_wp2_with (refine ⟨trivial, ?_⟩; gi_at_call 44; refine (callsIn_wide.2 HS.out).mono ?_; rintro e w2 ⟨A2, c2, rfl, ho2, hb2⟩; have HO2 := Lib.hid ho2; have HB2 := Lib.hid hb2; clear ho2 hb2)
      gi_loopw [25] (fun i wv => ∃ (j : Nat) (pr : List Iv), j ≤ r ∧ i = .int .i64 j ∧ Hid (pr.map (fun x => x.it) = allN L k ++ ((sl_.take j).map (itOf k S))) ∧ Hid (J pr wv) ∧ Hid (GI Bn pr wv) ∧ Hid (Below w0.heap.size w0 wv) ∧ Hid (Boxed wv Bn 23 (.pointer (some ⟨B, 0, none⟩))) ∧ Hid (wv.ownsRow Bn 3 1 (.slice A2 r c2) r (ints sl_))) (fun i _ => r - (intOf i).toNat)
      case atStart =>
        refine ⟨0, pre, Nat.zero_le _, rfl, Lib.hid (by rw [HM.out]; simp), Lib.hid (hJ _ _ _ HJ.out HB2.out), Lib.hid (HG.out.below HB2.out), Lib.hid (HB.out.trans (HB2.out.mono HB.out.size)), Lib.hid ((HB2.out.block _ hBlt).trans HX.out), Lib.hid ?_⟩
        obtain ⟨q1, q2⟩ := HO2.out
        refine ⟨q1, ?_⟩
        rcases q2 with q2 | ⟨g, cap, cur, hv, hbb, rest⟩
        · exact .inl q2
        · exact .inr ⟨g, cap, cur, hv, by omega, rest⟩
      case round =>
        obtain ⟨j, pr, hj, rfl, HM3, HJ3, HG3, HB3, HX3, HR3⟩ := hrel
        by_cases hjr : j < r
        · obtain ⟨b3, o3, s3, rfl, hs3, cs3⟩ := ints_get HR3.out HSR.out hjr
          have hjr' : (j : Int) < (r : Int) := by omega
          have hfull : full S s3 = true := slotsN_full (j := S.length) (by rw [HSL.out]; exact List.mem_of_getElem? hs3)
          have HGI := Lib.hid (get_item A0 c00 S s3 wr (HG0.out.below HB3.out) hfull)
          have hB3lt := HX3.out.lt
          have HT3 := Lib.hid (show sl_.take (j + 1) = sl_.take j ++ [s3] by
            obtain ⟨hj1, e1⟩ := List.getElem?_eq_some_iff.1 hs3
            rw [List.take_succ_eq_append_getElem hj1, e1])
          clear hfull hs3
          gi_wp2_with (refine ⟨trivial, ?_⟩; gi_at_call 29; refine (callsIn_wide.2 HGI.out).mono ?_; rintro e w4 ⟨A4, n4, c4, rfl, ho4, hb4⟩; have HO4 := Lib.hid ho4; have HB4 := Lib.hid hb4; clear ho4 hb4)
          have HG5 : GI Bn (pr ++ [⟨itOf k S s3, .slice A4 n4 c4⟩]) w4 := by
            refine (HG3.out.below HB4.out).snoc ?_
            obtain ⟨q1, q2⟩ := HO4.out
            refine ⟨q1, ?_⟩
            rcases q2 with q2 | ⟨g, cap, cur, hv, hbb, rest⟩
            · exact .inl q2
            · exact .inr ⟨g, cap, cur, hv, by omega, rest⟩
          have hpre : (pr ++ [(⟨itOf k S s3, .slice A4 n4 c4⟩ : Iv)]).map (fun x => x.it) <+: allH L := by
            have e1 : (pr ++ [(⟨itOf k S s3, .slice A4 n4 c4⟩ : Iv)]).map (fun x => x.it) = allN L k ++ (sl_.take (j + 1)).map (itOf k S) := by
              rw [HT3.out, List.map_append, HM3.out, List.map_append, List.append_assoc]; rfl
            rw [e1]
            have e2 : allN L k ++ (sl_.take (j + 1)).map (itOf k S) <+: allN L (k + 1) := by
              show _ <+: allN L k ++ itsP k (pageOf L k)
              refine (List.prefix_append_right_inj _).2 ?_
              unfold itsP itsN
              rw [HSP.out, HSL.out]
              exact (List.take_prefix _ _).map _
            exact e2.trans (allN_pre L (k + 1) L.length (by rw [HL.out]; omega))
          obtain ⟨fn, tmps, assign, body, hy, hR⟩ := hY pr ⟨itOf k S s3, .slice A4 n4 c4⟩ w4 (hJ _ _ _ HJ3.out HB4.out) ⟨HG5, hpre⟩
          have hy2 : (Instr.yield l #[.agg #[.int .i64 (k : Int), .int .i64 (s3 : Int), .slice A4 n4 c4]]).run Try.prog w4 = _ := hy
          rw [hy2]
          gi_wp2
          refine hR.mono ?_
          rintro e W3 ⟨rfl, hJ5, hk5⟩
          have HK5 := Lib.hid hk5
          have HJ5 := Lib.hid hJ5
          have HG6 := Lib.hid (GI.ki HG5 hk5)
          clear HG5 hpre hy hy2 hR hJ5 hk5
          gi_wp2
          go_roundw
          case rel => exact ⟨j + 1, pr ++ [⟨itOf k S s3, .slice A4 n4 c4⟩], by omega, by go_num, Lib.hid (by rw [HT3.out, List.map_append, HM3.out, List.map_append, List.append_assoc]; rfl), HJ5, HG6, Lib.hid ((HB3.out.trans (HB4.out.mono HB3.out.size)).trans HK5.out.1), Lib.hid (HK5.out.2 _ _ _ _ (Nat.le_refl _) (.inl rfl) ((HB4.out.block _ hB3lt).trans HX3.out)), Lib.hid (row_ki (row_blw HR3.out HB4.out) HK5.out (Nat.le_refl _) (.inr (.inl rfl)))⟩
          case measure => simp [intOf]; omega
        · obtain rfl : j = r := by omega
          gi_wp2
          go_roundw
          case rel => exact ⟨k + 1, pr, by omega, by go_num, Lib.hid (by
            rw [HM3.out, List.take_of_length_le (by rw [HSR.out]; exact Nat.le_refl _), ← HSL.out]
            show _ = allN L k ++ itsP k (pageOf L k)
            rw [HSP.out]; rfl), HJ3, HG3, HB3, HX3⟩
          case measure => simp [intOf]; omega
    · obtain rfl : k = m := by omega
      gi_wp2
      go_end0
      have he : pre.map (fun x => x.it) = allH L := by rw [HM.out]; unfold allH; rw [HL.out]
      exact ⟨⟨_, rfl⟩, pre, he, ⟨HG.out, by rw [he]; exact List.prefix_refl _⟩, HJ.out⟩
end Go.Proofs.Ythcilmlaoddckaa.Pg
